/-
  The way of the fewest faces, in the program.
-/
import Derived.Test.YthohgehhoogpnaaSteps8
import Derived.Deep.WholeRow
namespace Go.Proofs.Ythohgehhoogpnaa
open Go.ChangeShapes Go.WideShapes Go.ChangeAt Go.RowKit

set_option maxRecDepth 100000
set_option linter.unusedVariables false
set_option maxHeartbeats 4000000 in
theorem iclo (far : Nat → Option Nat) (B A x y : Nat) (w : World) (hB : ArrO w B (tabM 20 far 20)) (hA : w.cell? ⟨A, 0, none⟩ = some (.int .i64 (x : Int))) (hx : x < 20) (hy : y < 20) :
    Calls Try.prog 68 #[.int .i64 (y : Int), .pointer (some ⟨B, 0, none⟩), .pointer (some ⟨A, 0, none⟩)] w fun e w' => e = .returned (.bool (decide (val 20 (far y) < val 20 (far x)))) ∧ Kept w w' := by
  have d0 := hB.cell (tabM_get 20 far hy)
  have d1 := hB.cell (tabM_get 20 far hx)
  obtain ⟨V, hV⟩ : ∃ V, V = val 20 (far y) := ⟨_, rfl⟩
  obtain ⟨U, hU⟩ : ∃ U, U = val 20 (far x) := ⟨_, rfl⟩
  rw [← hV, ← hU]
  rw [← hV] at d0
  rw [← hU] at d1
  have q0 := cell_ltG d0
  have q1 := cell_ltG hA
  have x1 : (x : Int) < 20 := by omega
  have y1 : (y : Int) < 20 := by omega
  clear hV hU hB
  go_enter Try.func68, Try.ntmps68
  repeat (first | go_values | go_skip | go_guarded | go_step | go_upon)
  refine wp_region_kept (by kernel_rfl) (by kernel_rfl) ?_
  have hcc := KW.cell_eq w
  repeat (go_big_quiet_step (fail))
  refine wpQuiet_nil ?_
  rintro w9 ⟨⟨w8, k9⟩, h9⟩
  change w9 = w8 at h9
  subst h9
  clear hcc
  repeat (first | go_values | go_skip | go_guarded | go_step | go_upon)
  go_ret
  exact ⟨rfl, k9⟩

theorem wpList_store_new {P : Program} {ops : Array Oper} {rest : List Oper} {op : Oper} {a : Act} {Q : Exit → Act → World → Prop} (hgd : op.guard = none) (ty : TypeId) (x y : Operand) (ho : op.op = .store ty x y)
    (w0 : World) (c c' : Array Value) (hx : a.eval x = .pointer (some ⟨w0.heap.size, 0, none⟩)) (hy : a.eval y = .agg c')
    (hi : (P.info? ty).map (·.size) = some c'.size) (hs : c.size = c'.size) (h1 : c'.all (·.oneCell') = true)
    (h : wpList P ops Q rest (a.put op.dst undef) (w0.alloc (.cells c' ty))) : wpList P ops Q (op :: rest) a (w0.alloc (.cells c ty)) :=
  wpList_plain hgd fun _ hK => by
    unfold Oper.wp execOp
    simp only [ho, hx, hy, run_storeAt_new w0 ty c c' hi hs h1, Sem.run_bind, Sem.run_pure, Result.andThen_ok]
    exact hK _ _ h
theorem least8 {p : Nat → Prop} (h : ∃ n, p n) : ∃ n, p n ∧ ∀ j, j < n → ¬ p j := by
  obtain ⟨n, hn⟩ := h
  induction n using Nat.strongRecOn with
  | _ n ih =>
    by_cases hj : ∃ j, j < n ∧ p j
    · obtain ⟨j, hj, hp⟩ := hj
      exact ih j hj hp
    · exact ⟨n, hn, fun j hj' hp => hj ⟨j, hj', hp⟩⟩
/-- The first place of a list at which the function holds. -/
def FirstAt (p : Int → Bool) (l : List NumD) (i : Nat) : Prop := ∃ z, l[i]? = some z ∧ p z = true ∧ ∀ (j : Nat) u, j < i → l[j]? = some u → p u = false
set_option maxHeartbeats 4000000 in
theorem iindexf (far : Nat → Option Nat) (B A x : Nat) (l : List NumD) (v : Value) (w : World) (hv : NumAt w v l) (hn : l.length ≤ 1000) (hB : ArrO w B (tabM 20 far 20)) (hA : w.cell? ⟨A, 0, none⟩ = some (.int .i64 (x : Int))) (hx : x < 20) (hl : ∀ z ∈ l, ∃ y : Nat, z = (y : Int) ∧ y < 20)
    (hex : ∃ i, FirstAt (fun z => decide (val 20 (far z.toNat) < val 20 (far x))) l i) :
    Calls Try.prog 67 #[v, .func (.func 68) #[] #[.pointer (some ⟨B, 0, none⟩), .pointer (some ⟨A, 0, none⟩)]] w fun e w' => (∃ i : Nat, e = .returned (.int .i64 (i : Int)) ∧ FirstAt (fun z => decide (val 20 (far z.toNat) < val 20 (far x))) l i) ∧ Kept w w' := by
  obtain ⟨ao, cap, hsl⟩ := row_nil hv
  subst hsl
  go_enter Try.func67, Try.ntmps67
  repeat (first | go_values | go_skip | go_guarded | go_step | go_upon)
  obtain ⟨I, hI⟩ := hex
  have HI : Hid (FirstAt (fun z => decide (val 20 (far z.toNat) < val 20 (far x))) l I) := hI
  have hIl : I < l.length := by obtain ⟨z, hz, _⟩ := hI; exact (List.getElem?_eq_some_iff.1 hz).1
  clear hI
  go_loopw [8] (fun i wr => ∃ k : Nat, k ≤ I ∧ i = .int .i64 k ∧ Kept w wr) (fun i _ => l.length - (intOf i).toNat)
  case atStart => exact ⟨0, by omega, rfl, But.refl _ _ _⟩
  case round =>
    obtain ⟨k, hk, rfl, hkp⟩ := hrel
    have hlt : k < l.length := by omega
    obtain ⟨z, hz⟩ : ∃ z : Int, l[k]? = some z := ⟨_, List.getElem?_eq_getElem hlt⟩
    obtain ⟨y, hy, hy20⟩ := hl z (List.mem_of_getElem? hz)
    subst hy
    obtain ⟨b, o, cap1, e, c0⟩ := num_get (hv.kept hkp) hz
    cases e
    have HC : Hid (Calls Try.prog 68 #[.int .i64 (y : Int), .pointer (some ⟨B, 0, none⟩), .pointer (some ⟨A, 0, none⟩)] wr fun e w' => e = .returned (.bool (decide (val 20 (far y) < val 20 (far x)))) ∧ Kept wr w') := iclo far B A x y wr (hB.kept hkp) (Kept.cell hkp hA) hx hy20
    have HKP : Hid (Kept w wr) := hkp
    have hkl : (k : Int) < (l.length : Int) := by omega
    by_cases hkI : k = I
    · have hT : decide (val 20 (far y) < val 20 (far x)) = true := by
        obtain ⟨z', hz', hp, _⟩ := HI.out
        rw [← hkI, hz] at hz'
        cases hz'
        simpa using hp
      have HKI : Hid (k = I) := hkI
      rw [hT] at HC
      clear hz hkp hkI hT
      repeat (first | go_values | go_skip | go_guarded | go_step | go_upon)
      go_at_call 68
      refine HC.out.mono ?_
      rintro e w1 ⟨rfl, k1⟩
      dsimp only
      repeat (first | go_values | go_skip | go_guarded | go_step | go_upon)
      go_ret
      refine ⟨⟨k, rfl, ?_⟩, HKP.out.trans k1⟩
      rw [HKI.out]
      exact HI.out
    · have hT : decide (val 20 (far y) < val 20 (far x)) = false := by
        obtain ⟨_, _, _, hb⟩ := HI.out
        have := hb k (y : Int) (by omega) hz
        simpa using this
      rw [hT] at HC
      clear hz hkp hT
      repeat (first | go_values | go_skip | go_guarded | go_step | go_upon)
      go_at_call 68
      refine HC.out.mono ?_
      rintro e w1 ⟨rfl, k1⟩
      dsimp only
      repeat (first | go_values | go_skip | go_guarded | go_step | go_upon)
      exact ⟨⟨k + 1, by omega, by go_num, HKP.out.trans k1⟩, by simp [intOf]; omega⟩

set_option maxHeartbeats 8000000 in
theorem ifew (g : GroundD) (v : Value) (lo hi : Nat) (w : World) (ho : GroundO w lo hi v g) (hm : g.1.length ≤ 1048576) (hn : g.2.length ≤ 1048576) (hl : ∀ f ∈ g.2, f.length ≤ 1048576) (x y : Int) :
    Calls Try.prog 30 #[v, .int .i64 x, .int .i64 y] w (FewO g x y w) := by
  obtain ⟨ap, cp, af, cf, hfm⟩ := ho.at.form
  subst hfm
  have HG : Hid (∀ (u : World), Kept w u → Calls Try.prog 19 #[.agg #[.slice ap g.1.length cp, .slice af g.2.length cf]] u fun e u' => Says (GoodG g) e ∧ Kept u u') := fun u k => igood g _ lo hi u (ho.kept k) hm hn hl
  have ho' := ho
  obtain ⟨pv, fv, e, hP, hF⟩ := ho'
  cases e
  have HFL : Hid (LLO w lo hi (.slice af g.2.length cf) g.2) := hF
  clear ho hP hF
  go_enter Try.func30, Try.ntmps30
  repeat (first | go_values | go_skip | go_guarded | go_step | go_upon)
  refine (HG.out _ (by exact ((But.refl _ _ w).alloc _))).mono ?_
  rintro e w1 ⟨hs, k1⟩
  have KA : Kept w w1 := ((But.refl _ _ w).alloc _).trans k1
  have La := (Loc.new w [.slice ap g.1.length cp, .slice af g.2.length cf] 26).kept k1
  have a0 := La.cell 0 rfl
  have a1 := La.cell 1 rfl
  by_cases hg : GoodG g
  · have he := says_true hg hs
    subst he
    have HGG : Hid (GoodG g) := hg
    have hg20 := hg.2.2.1
    clear hg hs k1
    dsimp only
    repeat (first | go_values | go_skip | go_guarded | go_step | go_upon)
    go_at_call 64
    by_cases hx : 0 ≤ x ∧ x < (g.2.length : Int)
    · have hd : decide (0 ≤ x ∧ x < (g.2.length : Int)) = true := decide_eq_true hx
      refine (ihas g _ _ x _ (HFL.out.kept KA).at hn).mono ?_
      rw [hd]
      rintro e w2 ⟨rfl, k2⟩
      have La := La.kept k2
      have KB := KA.trans k2
      clear a0 a1 hd k2 KA
      have a0 := La.cell 0 rfl
      have a1 := La.cell 1 rfl
      dsimp only
      repeat (first | go_values | go_skip | go_guarded | go_step | go_upon)
      go_at_call 64
      by_cases hy : 0 ≤ y ∧ y < (g.2.length : Int)
      · have hd : decide (0 ≤ y ∧ y < (g.2.length : Int)) = true := decide_eq_true hy
        refine (ihas g _ _ y _ (HFL.out.kept KB).at hn).mono ?_
        rw [hd]
        rintro e w3 ⟨rfl, k3⟩
        have La := La.kept k3
        have KC := KB.trans k3
        clear a0 a1 hd k3 KB
        have a0 := La.cell 0 rfl
        have a1 := La.cell 1 rfl
        obtain ⟨X, hX⟩ : ∃ X : Nat, x = (X : Int) := ⟨x.toNat, by omega⟩
        obtain ⟨Y, hY⟩ : ∃ Y : Nat, y = (Y : Int) := ⟨y.toNat, by omega⟩
        subst hX hY
        have hXl : X < g.2.length := by omega
        have hYl : Y < g.2.length := by omega
        clear hx hy
        dsimp only
        repeat (first | go_values | go_skip | go_guarded | go_step | go_upon)
        go_at_call 66
        refine (isteps g _ _ _ lo hi (HFL.out.kept KC) hg20 Y hYl (faces_of HGG.out)).mono ?_
        rintro e w4 ⟨⟨far, hfin, hsm, rfl⟩, k4⟩
        have HFIN : Hid (Fin8 g Y far) := hfin
        have HSM : Hid (∀ x d, far x = some d → d < 20 ∧ x < g.2.length) := hsm
        have La := La.kept k4
        have KD := KC.trans k4
        obtain ⟨CS, hCS⟩ : ∃ CS, CS = (tabM 20 far 20).map (Value.int .i64) := ⟨_, rfl⟩
        have HCS : Hid (CS = (tabM 20 far 20).map (Value.int .i64)) := hCS
        rw [← hCS]
        have hcl : CS.length = 20 := by rw [hCS, List.length_map, tabM_len]
        have HONE : Hid (∀ v ∈ CS, v.oneCell' = true) := fun v hv => by
          rw [hCS] at hv
          obtain ⟨z, _, rfl⟩ := List.mem_map.1 hv
          rfl
        have HINF : Hid ((Try.prog.info? 93).map (·.size) = some CS.toArray.size) := by
          have h9 : (Try.prog.info? 93).map (·.size) = some 20 := by kernel_rfl
          rw [List.size_toArray, hcl]
          exact h9
        have HSZ : Hid ((#[.int .i64 0, .int .i64 0, .int .i64 0, .int .i64 0, .int .i64 0, .int .i64 0, .int .i64 0, .int .i64 0, .int .i64 0, .int .i64 0, .int .i64 0, .int .i64 0, .int .i64 0, .int .i64 0, .int .i64 0, .int .i64 0, .int .i64 0, .int .i64 0, .int .i64 0, .int .i64 0] : Array Value).size = CS.toArray.size) := by show _ = _; rw [show CS.toArray.size = 20 by simp [hcl]]; rfl
        clear a0 a1 k4 KC hfin hsm hCS hcl
        dsimp only
        repeat (first
          | (refine wpList_store_new rfl 93 _ _ rfl w4 _ CS.toArray rfl rfl HINF.out HSZ.out (all_oneCell_toArray HONE.out) ?_; refine forgetLB (fun w' => w' = _) rfl ?_)
          | go_values | go_skip | go_guarded | go_step | go_upon)
        intro w5 hw5
        have K5 : Kept w4 w5 := by rw [hw5]; exact (But.refl _ _ _).alloc _
        have A5 : ArrO w5 w4.heap.size (tabM 20 far 20) := by
          have h9 := Loc.new w4 CS 93
          rw [← hw5, HCS.out] at h9
          exact h9
        have La := La.kept K5
        have KE := KD.trans K5
        have hs5 : w5.heap.size = w4.heap.size + 1 := by rw [hw5]; simp
        obtain ⟨SB, hSB⟩ : ∃ b, b = w4.heap.size := ⟨_, rfl⟩
        rw [← hSB] at A5 hs5 ⊢
        have HSB : Hid (SB = w4.heap.size) := hSB
        have d0 := A5.cell (tabM_get 20 far (show X < 20 by omega))
        have HEQ : Hid (∀ z, z < g.2.length → far z = farT g Y z) := fun z hz => farT_eq HFIN.out hz
        have HFT : Hid (Fin8 g Y (farT g Y)) := farT_is HFIN.out
        rw [HEQ.out X hXl] at d0
        have x20 : (X : Int) < 20 := by omega
        clear hw5 K5 KD HINF HSZ HONE hSB
        cases hfx : farT g Y X with
        | none =>
          rw [hfx] at d0
          change w5.cell? ⟨SB, X, none⟩ = some (.int .i64 20) at d0
          have HNO : Hid (¬ fewOk g (X : Int) (Y : Int)) := fun h => by
            obtain ⟨e, he⟩ := h.2.2.2
            simp only [Int.toNat_natCast] at he
            rw [hfx] at he
            cases he
          clear hfx
          repeat (first | go_values | go_skip | go_guarded | go_step | go_upon)
          refine bodyPost_ret (v := .tuple #[.slice none 0 0, .bool false]) (by simp [results, Try.results30, go_sem]) rfl ?_
          exact fewO_no HNO.out KE
        | some D =>
          rw [hfx] at d0
          change w5.cell? ⟨SB, X, none⟩ = some (.int .i64 (D : Int)) at d0
          have HFX : Hid (farT g Y X = some D) := hfx
          have hD : D < 20 := (HSM.out X D (by rw [HEQ.out X hXl]; exact hfx)).1
          have dD : ((D : Int) == 20) = false := beq_eq_false_iff_ne.2 (by omega)
          have dD2 : decide ((D : Int) = 20) = false := decide_eq_false (by omega)
          clear hfx
          repeat (first | go_values | go_skip | go_guarded | go_step | go_upon)
          clear d0 dD dD2
          obtain ⟨i0, hi0, hz0, hz1, hz2⟩ := info_parts info3
          obtain ⟨W1, hW1⟩ : ∃ W, W = (w5.alloc (.cells #[.int .i64 (X : Int)] 3)).alloc (.cells #[.int .i64 (X : Int)] 3) := ⟨_, rfl⟩
          have K1 : Kept w5 W1 := by rw [hW1]; exact ((But.refl _ _ _).alloc _).alloc _
          have HLA : Hid (Loc W1 (SB + 1 + 1) [.int .i64 (X : Int)]) := by
            have h9 := Loc.new (w5.alloc (.cells #[.int .i64 (X : Int)] 3)) [.int .i64 (X : Int)] 3
            rw [← hW1, World.size_alloc, hs5] at h9
            exact h9
          have HO1 : Hid (W1.ownsRow (SB + 1) 3 1 (.slice (some ⟨SB + 1, 0, none⟩) 1 1) 1 ([(X : Int)].flatMap numC)) := by
            have h8 : W1.heap[SB + 1]? = some (.cells #[.int .i64 (X : Int)] 3 (0, 0)) := by
              have h7 : (w5.alloc (.cells #[.int .i64 (X : Int)] 3)).heap[SB + 1]? = some (.cells #[.int .i64 (X : Int)] 3 (0, 0)) := by rw [← hs5]; exact heap_alloc_new w5 _
              rw [hW1, heap_alloc_old _ _ (show SB + 1 < _ by rw [World.size_alloc, hs5]; omega)]
              exact h7
            have h9 : W1.ownsRow (SB + 1) 3 1 (.slice (some ⟨SB + 1, 0, none⟩) 1 1) 1 ([(X : Int)].flatMap numC) := ⟨rfl, .inr ⟨SB + 1, 1, _, rfl, Nat.le_refl _, h8, Nat.le_refl _, by unfold maxLen; omega, rfl, rfl⟩⟩
            exact h9
          rw [← hW1]
          have HK1 : Hid (Kept w5 W1) := K1
          clear hW1 K1
          go_loopg [9, 10] D (fun gk ov av wr => ∃ (x : Nat) (l : List NumD) (ao : Option Addr) (c Ab : Nat), av = .pointer (some ⟨Ab, 0, none⟩) ∧ Loc wr Ab [.int .i64 (x : Int)] ∧ SB + 1 ≤ Ab ∧ x < g.2.length ∧ farT g Y x = some gk ∧ l ++ (pathM g Y gk x).tail = pathM g Y D X ∧ ov = .slice ao l.length c ∧ wr.ownsRow (SB + 1) 3 1 (.slice ao l.length c) l.length (l.flatMap numC) ∧ (∀ q, (Value.slice ao l.length c).ownBlock = some q → q ≠ Ab) ∧ Kept w5 wr)
          case atStart =>
            refine ⟨X, [(X : Int)], _, 1, SB + 1 + 1, rfl, HLA.out, by omega, hXl, HFX.out, ?_, rfl, HO1.out, fun q hq => ?_, HK1.out⟩
            · obtain ⟨tl, htl⟩ := pathM_head g Y D X
              rw [htl]
              rfl
            · simp [Value.ownBlock] at hq
              omega
          case round =>
            obtain ⟨x, l, ao, c7, Ab, rfl, hLA, hAb, hxl, hgx, hpath, rfl, hown, hne, hk7⟩ := hrel
            have HPA : Hid (l ++ (pathM g Y gk x).tail = pathM g Y D X) := hpath
            have HGX : Hid (farT g Y x = some gk) := hgx
            have hll : l.length ≤ D + 1 := by
              have h9 := congrArg List.length hpath
              rw [List.length_append, pathM_len] at h9
              omega
            have HOW : Hid (wr.ownsRow (SB + 1) 3 1 (.slice ao l.length c7) l.length (l.flatMap numC)) := hown
            have HNE : Hid (∀ q, (Value.slice ao l.length c7).ownBlock = some q → q ≠ Ab) := hne
            have HK7 : Hid (Kept w5 wr) := hk7
            have la0 := hLA.cell 0 rfl
            by_cases hxy : x = Y
            · have z1 : ((x : Int) == (Y : Int)) = true := by simp [hxy]
              have z2 : ((x : Int) != (Y : Int)) = false := by simp [hxy]
              have z3 : decide ((x : Int) = (Y : Int)) = true := by simp [hxy]
              have z4 : decide (x = Y) = true := by simp [hxy]
              have hg0 : gk = 0 := by
                have h9 := HFT.out.a
                have h8 := hgx
                rw [hxy, h9] at h8
                injection h8 with h8
                exact h8.symm
              have HG0 : Hid (gk = 0) := hg0
              clear hown hk7 hgx hpath hg0 hxy hne
              repeat (first | go_values | go_skip | go_guarded | go_step | go_upon)
              refine bodyPost_ret (v := .tuple #[.slice ao l.length c7, .bool true]) (by simp [results, Try.results30, go_sem]) rfl ?_
              have hR := fewR_yes HGG.out hXl hYl HFX.out
              refine ⟨⟨_, by rw [hR], ?_⟩, KE.trans HK7.out⟩
              rw [hR]
              have hpp := HPA.out
              rw [HG0.out] at hpp
              simp only [pathM, List.tail_cons, List.append_nil] at hpp
              show NumO _ _ _ _ (pathM g Y D X)
              rw [← hpp]
              exact RowO.mono (RowO.top HOW.out) (by have h2 := KE.size; omega) (Nat.le_refl _)
            · have z1 : ((x : Int) == (Y : Int)) = false := beq_eq_false_iff_ne.2 (by omega)
              have z2 : ((x : Int) != (Y : Int)) = true := bne_iff_ne.2 (by omega)
              have z3 : decide ((x : Int) = (Y : Int)) = false := decide_eq_false (by omega)
              have z4 : decide (x = Y) = false := decide_eq_false hxy
              obtain ⟨e0, he0⟩ : ∃ e0, gk = e0 + 1 := by
                cases gk with
                | zero => exact absurd (HFT.out.z x hxl hgx) hxy
                | succ e0 => exact ⟨e0, rfl⟩
              subst he0
              obtain ⟨yb, hyb, hfyb⟩ := HFT.out.b x hxl e0 hgx
              obtain ⟨ib, hib⟩ := bes_has hyb
              have LaR := La.kept hk7
              have a0 := LaR.cell 0 rfl
              have a1 := LaR.cell 1 rfl
              have AR := A5.kept hk7
              have HLX : Hid (∀ z : Nat, Adj g x z → ((val 20 (far z) < val 20 (far x)) ↔ farT g Y z = some e0)) := fun z hz => by
                have hx2 : far x = some (e0 + 1) := by rw [HEQ.out x hxl]; exact hgx
                obtain ⟨e, he, hle⟩ := HFT.out.c x hxl _ hgx z hz
                have hz2 : far z = some e := by rw [HEQ.out z hz.1]; exact he
                obtain ⟨e', he', hle'⟩ := HFT.out.c z hz.1 e he x (hz.symm hxl)
                rw [hgx] at he'
                injection he' with he'
                rw [hx2, hz2, he]
                show (e : Int) < ((e0 + 1 : Nat) : Int) ↔ some e = some e0
                constructor
                · intro h
                  have : e = e0 := by omega
                  rw [this]
                · intro h
                  injection h with h
                  omega
              have HEX : Hid (∃ i, FirstAt (fun z => decide (val 20 (far z.toNat) < val 20 (far x))) (besM g x g.2.length) i) := by
                have hy : ∃ i : Nat, ∃ z, (besM g x g.2.length)[i]? = some z ∧ (fun z : Int => decide (val 20 (far z.toNat) < val 20 (far x))) z = true := ⟨ib, (yb : Int), hib, by simpa using (HLX.out yb hyb).2 hfyb⟩
                obtain ⟨i, ⟨z, hz, hp⟩, hmin⟩ := least8 hy
                exact ⟨i, z, hz, hp, fun j u hj hu => by
                  cases h : (fun z : Int => decide (val 20 (far z.toNat) < val 20 (far x))) u with
                  | false => rfl
                  | true => exact absurd ⟨u, hu, h⟩ (hmin j hj)⟩
              have HSB2 : Hid (Calls Try.prog 65 #[.agg #[.slice ap g.1.length cp, .slice af g.2.length cf], .int .i64 (x : Int)] wr fun e w' => (∃ v', e = .returned v' ∧ NumO w' wr.heap.size w'.heap.size v' (besM g x g.2.length)) ∧ Kept wr w') := ibeside g _ _ wr lo hi ((HFL.out.kept KE).kept hk7) hg20 x hxl (faces_of HGG.out)
              have hbl := besM_len g x g.2.length
              have HLA : Hid (Loc wr Ab [.int .i64 (x : Int)]) := hLA
              have HAR : Hid (ArrO wr SB (tabM 20 far 20)) := AR
              clear hown hk7 hgx hpath hxy hyb hib hfyb hne hLA AR
              repeat (first | go_values | go_skip | go_guarded | go_step | go_upon)
              refine HSB2.out.mono ?_
              rintro e w6 ⟨⟨bv, rfl, hbo⟩, k6⟩
              obtain ⟨ba, bc, hbf⟩ := hbo.form
              subst hbf
              have HBO : Hid (NumO w6 wr.heap.size w6.heap.size (.slice ba (besM g x g.2.length).length bc) (besM g x g.2.length)) := hbo
              have HK6 : Hid (Kept wr w6) := k6
              have HIF : Hid (Calls Try.prog 67 #[.slice ba (besM g x g.2.length).length bc, .func (.func 68) #[] #[.pointer (some ⟨SB, 0, none⟩), .pointer (some ⟨Ab, 0, none⟩)]] w6 fun e w' => (∃ i : Nat, e = .returned (.int .i64 (i : Int)) ∧ FirstAt (fun z => decide (val 20 (far z.toNat) < val 20 (far x))) (besM g x g.2.length) i) ∧ Kept w6 w') := iindexf far SB Ab x _ _ w6 hbo.at (by omega) (HAR.out.kept k6) ((HLA.out.kept k6).cell 0 rfl) (by omega) (fun z hz => by
                obtain ⟨i, hi'⟩ := List.mem_iff_getElem?.1 hz
                obtain ⟨y, hy, hadj⟩ := bes_get hi'
                exact ⟨y, hy, by have := hadj.1; omega⟩) HEX.out
              clear hbo k6 a0 a1 la0 z1 z2 z3 z4 HSB2
              dsimp only
              repeat (first | go_values | go_skip | go_guarded | go_step | go_upon)
              go_at_call 67
              refine HIF.out.mono ?_
              rintro e w7 ⟨⟨i, rfl, hfi⟩, k7⟩
              obtain ⟨zi, hzi, hpi, hbi⟩ := hfi
              obtain ⟨z, hz, hadj⟩ := bes_get hzi
              subst hz
              have hze : farT g Y z = some e0 := (HLX.out z hadj).1 (by simpa using hpi)
              have hnx : z = nxt g Y x e0 := nxt_is hzi hze (fun j u hj hu hc => by
                obtain ⟨u', hu', hadj'⟩ := bes_get hu
                have : u' = u := by omega
                subst this
                have h1 := hbi j (u' : Int) hj hu
                have h2 := (HLX.out u' hadj').2 hc
                simp at h1
                omega)
              have HZ : Hid (farT g Y z = some e0 ∧ z = nxt g Y x e0) := ⟨hze, hnx⟩
              have hzl := hadj.1
              obtain ⟨b6, o6, cap6, e, c6⟩ := num_get (HBO.out.at.kept k7) hzi
              cases e
              have hil : (i : Int) < ((besM g x g.2.length).length : Int) := by have := (List.getElem?_eq_some_iff.1 hzi).1; omega
              have K67 := HK6.out.trans k7
              have L7 := HLA.out.kept K67
              have l70 := L7.cell 0 rfl
              have lf7 := L7.frozen 0
              have L8 : Loc (w7.setCell ⟨Ab, 0, none⟩ (.int .i64 (z : Int))) Ab [.int .i64 (z : Int)] := L7.set 0 _
              have l80 := L8.cell 0 rfl
              have HO8 : Hid ((w7.setCell ⟨Ab, 0, none⟩ (.int .i64 (z : Int))).ownsRow (SB + 1) 3 1 (.slice ao l.length c7) l.length (l.flatMap numC)) := own_but (own_kept HOW.out K67) ((But.refl Ab (Ab + 1) w7).setCell (p := ⟨Ab, 0, none⟩) (Nat.le_refl _) (Nat.lt_succ_self _) _) (fun q hq => by have := HNE.out q hq; omega)
              have HXC : Hid (∀ (j : Nat) u, [Value.int .i64 (z : Int)][j]? = some u → ((w7.setCell ⟨Ab, 0, none⟩ (.int .i64 (z : Int))).alloc (.cells #[.int .i64 (z : Int)] 3)).cell? ((⟨w7.heap.size, 0, none⟩ : Addr).add j) = some u) := by
                have h9 := news1 (Loc.new (w7.setCell ⟨Ab, 0, none⟩ (.int .i64 (z : Int))) [.int .i64 (z : Int)] 3)
                rw [show (w7.setCell ⟨Ab, 0, none⟩ (.int .i64 (z : Int))).heap.size = w7.heap.size by simp [World.setCell]] at h9
                exact h9
              have HK67 : Hid (Kept wr w7) := K67
              have hw7 : SB + 1 ≤ w7.heap.size := by have := L7.lt; omega
              have HL8 : Hid (Loc (w7.setCell ⟨Ab, 0, none⟩ (.int .i64 (z : Int))) Ab [.int .i64 (z : Int)]) := L8
              clear hzi hpi hbi hadj hze hnx K67 k7
              dsimp only
              repeat (first
                | (at_builtin
                   refine wpList_append_own_at _ rfl _ _ 27 rfl (SB + 1) 3 i0 (.int .i64 0) 1 8 Try.underlying27 hi0 hz0 hz1 hz2 rfl (by decide) _ _ _ rfl (own_kept HO8.out ((But.refl _ _ _).alloc _)) ⟨w7.heap.size, 0, none⟩ 1 1 [.int .i64 (z : Int)] rfl rfl HXC.out (by simp [Value.oneCell']) (by unfold maxLen; omega) (by omega) (by simp [World.setCell]; omega) ?_
                   intro v' w9 hown' hgrow _ hat
                   obtain ⟨ao5, cap5, hf5, _⟩ := own_form hown'
                   subst hf5
                   have HO9 : Hid (w9.ownsRow (SB + 1) 3 1 (.slice ao5 (l.length + 1) cap5) (l.length + 1) (l.flatMap numC ++ [.int .i64 (z : Int)])) := hown'
                   have HG9 : Hid (((w7.setCell ⟨Ab, 0, none⟩ (.int .i64 (z : Int))).alloc (.cells #[.int .i64 (z : Int)] 3)).grownBy w9 (Value.ownBlock (.slice ao l.length c7))) := hgrow
                   have L9 : Loc w9 Ab [.int .i64 (z : Int)] := Loc.grown (L8.alloc _) hgrow (fun h => HNE.out Ab h rfl)
                   have c9 := L9.cell 0 rfl
                   clear hgrow hown' hat)
                | go_values | go_skip | go_guarded | go_step | go_upon)
              go_roundg e0
              case measure => omega
              case rel =>
                have hst : But Ab (Ab + 1) w7 (w7.setCell ⟨Ab, 0, none⟩ (.int .i64 (z : Int))) := (But.refl Ab (Ab + 1) w7).setCell (p := ⟨Ab, 0, none⟩) (Nat.le_refl _) (Nat.lt_succ_self _) _
                have hk8 : Kept w5 (w7.setCell ⟨Ab, 0, none⟩ (.int .i64 (z : Int))) := (HK7.out.trans HK67.out).onto hst (by omega)
                have hk9 : Kept w5 w9 := (hk8.alloc _).grown HG9.out (fun q hq => .inl (by have := (own_lt HOW.out hq).1; omega))
                have hw9 : SB + 1 ≤ w9.heap.size := by have := L9.lt; omega
                refine ⟨z, l ++ [(z : Int)], ao5, cap5, w9.heap.size, rfl, Loc.new w9 [.int .i64 (z : Int)] 3, hw9, hzl, HZ.out.1, ?_, by simp, ?_, fun q hq => ?_, hk9.alloc _⟩
                · have hpp := HPA.out
                  simp only [pathM, List.tail_cons] at hpp
                  rw [← HZ.out.2] at hpp
                  obtain ⟨tl, htl⟩ := pathM_head g Y e0 z
                  rw [htl] at hpp ⊢
                  rw [List.tail_cons, List.append_assoc]
                  exact hpp
                · have h9 : (w9.alloc (.cells #[.int .i64 (z : Int)] 3)).ownsRow (SB + 1) 3 1 (.slice ao5 (l.length + 1) cap5) (l.length + 1) (l.flatMap numC ++ [.int .i64 (z : Int)]) := own_kept HO9.out ((But.refl _ _ _).alloc _)
                  simpa [List.flatMap_append, numC] using h9
                · have h9 : (Value.slice ao5 (l.length + 1) cap5).ownBlock = some q := by simpa [Value.ownBlock] using hq
                  have := (own_lt HO9.out h9).2
                  omega
      · have hd : decide (0 ≤ y ∧ y < (g.2.length : Int)) = false := decide_eq_false hy
        refine (ihas g _ _ y _ (HFL.out.kept KB).at hn).mono ?_
        rw [hd]
        rintro e w3 ⟨rfl, k3⟩
        have HNO : Hid (¬ fewOk g x y) := fun h => hy h.2.2.1
        clear hd hy hx
        dsimp only
        repeat (first | go_values | go_skip | go_guarded | go_step | go_upon)
        refine bodyPost_ret (v := .tuple #[.slice none 0 0, .bool false]) (by simp [results, Try.results30, go_sem]) rfl ?_
        exact fewO_no HNO.out (KB.trans k3)
    · have hd : decide (0 ≤ x ∧ x < (g.2.length : Int)) = false := decide_eq_false hx
      refine (ihas g _ _ x _ (HFL.out.kept KA).at hn).mono ?_
      rw [hd]
      rintro e w2 ⟨rfl, k2⟩
      have HNO : Hid (¬ fewOk g x y) := fun h => hx h.2.1
      clear hd hx
      dsimp only
      repeat (first | go_values | go_skip | go_guarded | go_step | go_upon)
      refine bodyPost_ret (v := .tuple #[.slice none 0 0, .bool false]) (by simp [results, Try.results30, go_sem]) rfl ?_
      exact fewO_no HNO.out (KA.trans k2)
  · have he := says_false hg hs
    subst he
    have HNO : Hid (¬ fewOk g x y) := fun h => hg h.1
    clear hg hs
    dsimp only
    repeat (first | go_values | go_skip | go_guarded | go_step | go_upon)
    refine bodyPost_ret (v := .tuple #[.slice none 0 0, .bool false]) (by simp [results, Try.results30, go_sem]) rfl ?_
    exact fewO_no HNO.out KA

end Go.Proofs.Ythohgehhoogpnaa

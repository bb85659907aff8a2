/-
  The edges of a face, in the program.
-/
import Derived.Test.YthohgehhoogpnaaIm8
import Derived.Deep.RegionLaw
namespace Go.Proofs.Ythohgehhoogpnaa
open Go.ChangeShapes Go.WideShapes Go.ChangeAt Go.RowKit

set_option maxRecDepth 100000
set_option linter.unusedVariables false
/-- append onto a slice that has no room: a row of its own comes of it, in a new block. -/
theorem wp_append_full {P : Program} {w : World} {o : Oper} {a : Act} {K : Act → World → Prop} {Q : Exit → Act → World → Prop} (s x : Operand) (t : TypeId)
    (ho : o.op = .call { callee := .builtin .append, args := #[s, x], argTypes := #[t, t] })
    (e : TypeId) (i : TypeInfo) (z : Value) (size bytes : Nat) (ht : P.underlying t = some (.slice e)) (hi : P.info? e = some i) (hz : i.zero = some z)
    (hsize : i.size = size) (hby : i.bytes = bytes) (hzs : z.cells.size = size)
    (sa : Addr) (n : Nat) (xs : List Value) (hs : a.eval s = .slice (some sa) n n) (hxl : xs.length = n * size) (hxs : ∀ j u, xs[j]? = some u → w.cell? (sa.add j) = some u)
    (ad : Addr) (m c : Nat) (news : List Value) (hx : a.eval x = .slice (some ad) m c) (hl : news.length = m * size) (hnews : ∀ j u, news[j]? = some u → w.cell? (ad.add j) = some u)
    (hm : 0 < m) (h63 : n + m ≤ maxLen) (hbytes : (n + m) * bytes ≤ 140737488355328)
    (h : ∀ R cap w', R = w.heap.size → w'.ownsRow R e size (.slice (some ⟨R, 0, none⟩) (n + m) cap) (n + m) (xs ++ news) → Kept w w' → w'.heap.size = R + 1 → K (a.put o.dst (.slice (some ⟨R, 0, none⟩) (n + m) cap)) w') : Oper.wp P o a w K Q := by
  subst hsize
  subst hby
  have hlen : (xs ++ news).length = (n + m) * i.size := by rw [List.length_append, hxl, hl, Nat.add_mul]
  have hge := grownCap_ge w (n + m) n e
  have hcm : grownCap w (n + m) n e ≤ maxLen := grownCap_le_maxLen w (n + m) n e h63
  have hr := run_append_grow (P := P) w t o.type e i z ht hi hz sa n n xs hxl hxs ad m c news hl hnews (by omega) (by unfold maxLen at h63; omega) (growslice_fits (by omega) hbytes)
  unfold Oper.wp execOp
  simp only [ho, resolve, invoke, builtin, Sem.run_bind, Sem.run_pure, Result.andThen_ok, List.map_toArray, List.map_cons, List.map_nil, hs, hx, hr]
  refine h _ _ _ rfl ?_ ?_ ?_
  · refine ⟨hlen, .inr ⟨w.heap.size, _, _, rfl, Nat.le_refl _, heap_alloc_new w.drew _, hge, hcm, ?_, ?_⟩⟩
    · simp only [Array.size_append, List.size_toArray, size_zeroCells, hzs, hxl, hl, ← Nat.add_mul]
      congr 1
      omega
    · simp only [Array.toList_append, List.append_assoc]
      rw [← List.append_assoc, ← hlen]
      exact List.take_left
  · exact (But.refl _ _ _).drew.alloc _
  · simp
theorem step_append_full {P : Program} {w : World} {ops : Array Oper} {o : Oper} {a : Act} {K : Act → World → Prop} {Q : Exit → Act → World → Prop} {E : Prop} (hg : o.guard = none) (s x : Operand) (t : TypeId)
    (ho : o.op = .call { callee := .builtin .append, args := #[s, x], argTypes := #[t, t] })
    (e : TypeId) (i : TypeInfo) (z : Value) (size bytes : Nat) (ht : P.underlying t = some (.slice e)) (hi : P.info? e = some i) (hz : i.zero = some z)
    (hsize : i.size = size) (hby : i.bytes = bytes) (hzs : z.cells.size = size)
    (sa : Addr) (n : Nat) (xs : List Value) (hs : a.eval s = .slice (some sa) n n) (hxl : xs.length = n * size) (hxs : ∀ j u, xs[j]? = some u → w.cell? (sa.add j) = some u)
    (ad : Addr) (m c : Nat) (news : List Value) (hx : a.eval x = .slice (some ad) m c) (hl : news.length = m * size) (hnews : ∀ j u, news[j]? = some u → w.cell? (ad.add j) = some u)
    (hm : 0 < m) (h63 : n + m ≤ maxLen) (hbytes : (n + m) * bytes ≤ 140737488355328)
    (h : ∀ R cap w', R = w.heap.size → w'.ownsRow R e size (.slice (some ⟨R, 0, none⟩) (n + m) cap) (n + m) (xs ++ news) → Kept w w' → w'.heap.size = R + 1 → K (a.put o.dst (.slice (some ⟨R, 0, none⟩) (n + m) cap)) w') :
    if Region.wanted o (yielded ops a.tmps) = true then Oper.wp P o a w K Q else E := by
  have hw : Region.wanted o (yielded ops a.tmps) = true := by simp [Region.wanted, hg]
  rw [if_pos hw]
  exact wp_append_full s x t ho e i z size bytes ht hi hz hsize hby hzs sa n xs hs hxl hxs ad m c news hx hl hnews hm h63 hbytes h
theorem step_append_own {P : Program} {ops : Array Oper} {o : Oper} {a : Act} {w : World} {K : Act → World → Prop} {Q : Exit → Act → World → Prop} {E : Prop}
    (hg : o.guard = none) (s x : Operand) (t : TypeId) (hop : o.op = Op.call { callee := Callee.builtin Builtin.append, args := #[s, x], argTypes := #[t, t] })
    (base : Nat) (e : TypeId) (i : TypeInfo) (z : Value) (size bytes : Nat) (ht : P.underlying t = some (.slice e)) (hi : P.info? e = some i) (hz : i.zero = some z)
    (hsize : i.size = size) (hby : i.bytes = bytes) (hzs : z.cells.size = size) (hsz : 0 < size)
    (v : Value) (n : Nat) (xs : List Value) (hs : a.eval s = v) (hown : w.ownsRow base e size v n xs)
    (ad : Addr) (m c : Nat) (news : List Value) (hx : a.eval x = .slice (some ad) m c) (hl : news.length = m * size) (hnews : ∀ j u, news[j]? = some u → w.cell? (ad.add j) = some u) (h1 : ∀ u ∈ news, u.oneCell' = true)
    (h63 : n + m ≤ maxLen) (hbytes : (n + m) * bytes ≤ 140737488355328) (hbase : base ≤ w.heap.size)
    (h : ∀ v' w', w'.ownsRow base e size v' (n + m) (xs ++ news) → w.grownBy w' v.ownBlock → K (a.put o.dst v') w') :
    if Region.wanted o (yielded ops a.tmps) = true then Oper.wp P o a w K Q else E := by
  have hw : Region.wanted o (yielded ops a.tmps) = true := by simp [Region.wanted, hg]
  rw [if_pos hw]
  exact wp_append_own w s x t hop base e i z size bytes ht hi hz hsize hby hzs hsz v n xs hs hown ad m c news hx hl hnews h1 h63 hbytes hbase fun v' w' h2 h3 _ => h v' w' h2 h3
/-- Cuts: what a region leaves, in few letters. -/
theorem wp_cut0 {P : Program} {C : Code} {Q : Exit → Act → World → Prop} {a : Act} {w : World} {A : Act} (F : World → Prop)
    (h : C.wp P (fun x a' w' => match x with | .normal => a' = A ∧ F w' | _ => False) a w) (hq : ∀ w', F w' → Q .normal A w') : C.wp P Q a w :=
  wp_mono h fun e a' w' hx => by
    cases e with
    | normal => obtain ⟨rfl, hF⟩ := hx; exact hq w' hF
    | _ => exact hx.elim
theorem wp_cutN {P : Program} {C : Code} {Q : Exit → Act → World → Prop} {a : Act} {w : World} {A : Nat → Nat → Act} (F : Nat → Nat → World → Prop)
    (h : C.wp P (fun x a' w' => match x with | .normal => ∃ g c, a' = A g c ∧ F g c w' | _ => False) a w) (hq : ∀ g c w', F g c w' → Q .normal (A g c) w') : C.wp P Q a w :=
  wp_mono h fun e a' w' hx => by
    cases e with
    | normal => obtain ⟨g, c, rfl, hF⟩ := hx; exact hq g c w' hF
    | _ => exact hx.elim
theorem wp_cut2 {P : Program} {C : Code} {Q : Exit → Act → World → Prop} {a : Act} {w : World} {A : Option Addr → Nat → Act} (F : Option Addr → Nat → World → Prop)
    (h : C.wp P (fun x a' w' => match x with | .normal => ∃ ao cap, a' = A ao cap ∧ F ao cap w' | _ => False) a w) (hq : ∀ ao cap w', F ao cap w' → Q .normal (A ao cap) w') : C.wp P Q a w :=
  wp_mono h fun e a' w' hx => by
    cases e with
    | normal => obtain ⟨ao, cap, rfl, hF⟩ := hx; exact hq ao cap w' hF
    | _ => exact hx.elim
theorem wp_slice3 {P : Program} {o : Oper} {a : Act} {w : World} {K : Act → World → Prop} {Q : Exit → Act → World → Prop} {v : Value} (t : TypeId) (s l h m : Operand) (hu : P.underlying t = some (.slice (P.elem t))) (ho : o.op = .slice t s (some l) (some h) (some m))
    (hr : (Instr.slice t (a.eval s) (some (a.eval l)) (some (a.eval h)) (some (a.eval m))).run P w = .ok v w) (hk : K (a.put o.dst v) w) : Oper.wp P o a w K Q := by
  unfold Oper.wp execOp
  simp only [ho, Option.map_some, run_sliceAt_slice _ _ _ _ _ _ hu, hr, Sem.run_bind, Sem.run_pure, Result.andThen_ok]
  exact hk
theorem wpList_slice3 {P : Program} {ops : Array Oper} {rest : List Oper} {o : Oper} {a : Act} {w : World} {Q : Exit → Act → World → Prop} {v : Value} (hgd : o.guard = none) (t : TypeId) (s l h m : Operand) (hu : P.underlying t = some (.slice (P.elem t))) (ho : o.op = .slice t s (some l) (some h) (some m))
    (hr : (Instr.slice t (a.eval s) (some (a.eval l)) (some (a.eval h)) (some (a.eval m))).run P w = .ok v w) (hk : wpList P ops Q rest (a.put o.dst v) w) : wpList P ops Q (o :: rest) a w :=
  wpList_plain hgd fun _ hK => wp_slice3 t s l h m hu ho hr (hK _ _ hk)
theorem news1 {w : World} {b : Nat} {x : Value} (h : Loc w b [x]) : ∀ j u, [x][j]? = some u → w.cell? ((⟨b, 0, none⟩ : Addr).add j) = some u := fun j u hu => by
  match j, hu with
  | 0, hu => cases hu; exact h.cell 0 rfl

/-- The edges of a face, as slices of one row R. -/
def edgeV (R : Nat) (f : List NumD) (i : Nat) : NumsE := (.slice (some ⟨R, i, none⟩) 2 2, [f.getD i 0, f.getD ((i + 1) % f.length) 0])
def edgesV (R : Nat) (f : List NumD) (k : Nat) : List NumsE := (List.range k).map (edgeV R f)
theorem edgesV_succ (R : Nat) (f : List NumD) (k : Nat) : edgesV R f (k + 1) = edgesV R f k ++ [edgeV R f k] := by simp [edgesV, List.range_succ]
theorem edgesV_len (R : Nat) (f : List NumD) (k : Nat) : (edgesV R f k).length = k := by simp [edgesV]

set_option maxHeartbeats 4000000 in
theorem iedges (f : List NumD) (v : Value) (w : World) (lo hi : Nat) (ho : NumO w lo hi v f) (hn : f.length ≤ 1048576) (h1 : 1 ≤ f.length) :
    Calls Try.prog 82 #[v] w fun e w' => (∃ v' R cap, e = .returned v' ∧ RowAt w' v' f.length ((edgesV R f f.length).flatMap numsC) ∧ NumO w' R (R + 1) (.slice (some ⟨R, 0, none⟩) (f.length + 1) cap) (f ++ [f.getD 0 0]) ∧ w.heap.size ≤ R) ∧ Kept w w' := by
  obtain ⟨p, hp⟩ : ∃ p, f[0]? = some p := ⟨_, List.getElem?_eq_getElem (by omega)⟩
  have hv := ho.at
  obtain ⟨ao0, cap, e0, hcap⟩ := own_capN ho
  subst e0
  obtain ⟨b, o, cap0, e, c0⟩ := num_get hv hp
  cases e
  clear ho
  have hcell : ∀ j u, (f.flatMap numC)[j]? = some u → w.cell? ⟨b, o + j, none⟩ = some u := by
    obtain ⟨ao, cap', e, hc⟩ := hv
    cases e
    intro j u hu
    obtain ⟨b', o', e, h⟩ := hc j u hu
    cases e
    exact h
  obtain ⟨i0, hi0, hz0, hz1, hz2⟩ := info_parts info3
  have HC : Hid (∀ j u, (f.flatMap numC)[j]? = some u → w.cell? ⟨b, o + j, none⟩ = some u) := hcell
  have HV : Hid (NumAt w (.slice (some ⟨b, o, none⟩) f.length cap) f) := hv
  have HP : Hid (f[0]? = some p) := hp
  have hbw := cell_ltG c0
  have z0 : (0 : Int) < (f.length : Int) := by omega
  have z0' : 0 < f.length := by omega
  have c0' : w.cell? ⟨b, o, none⟩ = some (.int .i64 p) := by simpa using c0
  clear hcell hv hp
  go_enter Try.func82, Try.ntmps82
  repeat (first | go_values | go_skip | go_guarded | go_step | go_upon)
  apply wp_cutN (F := fun g c W' => W'.heap.size = g + 1 ∧ NumO W' g (g + 1) (.slice (some ⟨g, 0, none⟩) (f.length + 1) c) (f ++ [p]) ∧ Kept w W' ∧ w.heap.size ≤ g)
  · go_region_law (refine step_append_full rfl (.tmp 11) (.tmp 15) 27 rfl 3 i0 (.int .i64 0) 1 8 Try.underlying27 hi0 hz0 hz1 hz2 rfl ⟨b, o, none⟩ f.length (f.flatMap numC) (by simp [Act.eval]) (flat_len 1 numC numC_len f) (fun j u hu => But.cell (((But.refl 0 0 w).drew).alloc _) (by rw [Go.WideShapes.add_plain]; exact HC.out j u hu) (by omega)) ⟨w.heap.size, 0, none⟩ 1 1 [.int .i64 p] (by simp [Act.eval]) rfl (news1 (Loc.new w.drew [.int .i64 p] 3)) (by omega) (by unfold maxLen; omega) (by omega) ?_
                   intro R c3 w3 hR hown hk hsz
                   have h9 : NumO w3 R (R + 1) (.slice (some ⟨R, 0, none⟩) (f.length + 1) c3) (f ++ [p]) := (by simpa [NumO, RowO, Value.ownBlock, numC, List.flatMap_append] using hown)
                   have HO : Hid (NumO w3 R (R + 1) (.slice (some ⟨R, 0, none⟩) (f.length + 1) c3) (f ++ [p])) := h9
                   have HK : Hid (Kept w w3 ∧ w3.heap.size = R + 1 ∧ w.heap.size ≤ R) := ⟨But.trans (((But.refl 0 0 w).drew).alloc _) hk, hsz, (by rw [hR]; simp)⟩
                   clear hR hown hk hsz h9)
    all_goals
      refine ⟨R, c3, ?_, HK.out.2.1, HO.out, HK.out.1, HK.out.2.2⟩
      conv => lhs; simp [Act.put]
  · rintro R cR w1 ⟨hs1, o1, k1, hr1⟩
    repeat (first | go_values | go_skip | go_guarded | go_step | go_upon)
    have h2 : 2 ≤ f.length + 1 := by omega
    obtain ⟨aR, cR', eR, hcR⟩ := own_capN o1
    injection eR with eR1 eR2 eR3
    clear eR1 eR2
    subst eR3
    rw [List.length_append] at hcR
    simp only [List.length_cons, List.length_nil] at hcR
    obtain ⟨j0, hj0, hy0, hy1, hy2⟩ := info_parts info27
    go_loopw [4, 19] (fun e i wr => ∃ (k : Nat) (ao : Option Addr) (c : Nat), k ≤ f.length ∧ i = .int .i64 k ∧ e = .slice ao k c ∧ wr.ownsRow w1.heap.size 27 1 (.slice ao k c) k ((edgesV R f k).flatMap numsC) ∧ Kept w1 wr) (fun e i _ => f.length - (intOf i).toNat)
    case atStart => exact ⟨0, none, 0, by omega, rfl, rfl, World.ownsRow_nil _ _ _ _, But.refl _ _ _⟩
    case round =>
      obtain ⟨k, ao, c, hk, rfl, rfl, hown, hkp⟩ := hrel
      have hwz := hkp.size
      have HO : Hid (wr.ownsRow w1.heap.size 27 1 (.slice ao k c) k ((edgesV R f k).flatMap numsC)) := hown
      have HK : Hid (Kept w1 wr) := hkp
      clear hown hkp
      by_cases hlt : k < f.length
      · have y3 : IntKind.i64.wrap ((k : Int) + 2) = (k : Int) + 2 := by rw [IntKind.wrap_i64]; omega
        have hsl : ∀ W, (Instr.slice 27 (.slice (some ⟨R, 0, none⟩) (f.length + 1) cR) (some (.int .i64 (k : Int))) (some (.int .i64 ((k : Int) + 2))) (some (.int .i64 ((k : Int) + 2)))).run Try.prog W = .ok (.slice (some ⟨R, k, none⟩) 2 2) W := fun W => by
          rw [run_slice_lhm W 27 _ _ _ Try.underlying27 .i64 .i64 .i64 _ _ _ (by omega) (by omega) (by omega) (by omega)]
          rw [show ((k : Int) + 2).toNat = k + 2 by omega, Int.toNat_natCast]
          simp [sizeOf, typeInfo, sliced, show Try.prog.elem 27 = 3 from by kernel_rfl, hi0, hz1, Addr.add]
          try (intro h; subst h; rfl)
        repeat (first
          | (at_builtin
             refine wpList_append_own _ rfl _ _ 24 rfl w1.heap.size 27 j0 (.slice none 0 0) 1 24 Try.underlying24 hj0 hy0 hy1 hy2 rfl (by decide) _ _ _ rfl (own_kept HO.out ((But.refl _ _ wr).alloc _)) ⟨wr.heap.size, 0, none⟩ 1 1 [.slice (some ⟨R, k, none⟩) 2 2] rfl rfl (news1 (Loc.new wr [.slice (some ⟨R, k, none⟩) 2 2] 27)) (by simp [Value.oneCell']) (by unfold maxLen; omega) (by omega) (by simp; omega) ?_
             intro v' w2 hown' hgrow _
             obtain ⟨ao5, cap5, hf5, _⟩ := own_form hown'
             subst hf5
             have HK1 : Hid (Kept w1 w2) := (HK.out.alloc _).grown hgrow (by intro x hx; have := own_lt HO.out hx; omega)
             have HW : Hid (w2.ownsRow w1.heap.size 27 1 (.slice ao5 (k + 1) cap5) (k + 1) ((edgesV R f k).flatMap numsC ++ [.slice (some ⟨R, k, none⟩) 2 2])) := hown'
             clear hgrow hown')
          | (refine wpList_slice3 rfl 27 _ _ _ _ Try.underlying27 rfl (hsl _) ?_; clear hsl)
          | go_values | go_skip | go_guarded | go_step | go_upon)
        refine ⟨⟨k + 1, ao5, cap5, hlt, by go_num, rfl, ?_, HK1.out⟩, by simp [intOf]; omega⟩
        rw [edgesV_succ, List.flatMap_append]
        exact HW.out
      · have hke : k = f.length := by omega
        subst hke
        have HPD : Hid (f.getD 0 0 = p) := by show f.getD 0 0 = p; rw [List.getD_eq_getElem?_getD, HP.out]; rfl
        repeat (first | go_values | go_skip | go_guarded | go_step | go_upon)
        refine bodyPost_ret (v := .slice ao f.length c) (by simp [results, Try.results82, go_sem]) rfl ?_
        exact ⟨⟨_, R, cR, rfl, own_row HO.out, by rw [HPD.out]; exact o1.kept HK.out, hr1⟩, k1.trans HK.out⟩
/-- The edges of a face as they lie in memory: slices of a row R that is the call's own. -/
structure EdAt (w : World) (v : Value) (R : Nat) (f : List NumD) : Prop where
  row : RowAt w v f.length ((edgesV R f f.length).flatMap numsC)
  rnd : ∃ cap, NumO w R (R + 1) (.slice (some ⟨R, 0, none⟩) (f.length + 1) cap) (f ++ [f.getD 0 0])
theorem EdAt.kept {w w' : World} {v : Value} {R : Nat} {f : List NumD} (h : EdAt w v R f) (k : Kept w w') : EdAt w' v R f := ⟨h.row.kept k, h.rnd.imp fun _ h => h.kept k⟩
theorem EdAt.form {w : World} {v : Value} {R : Nat} {f : List NumD} (h : EdAt w v R f) : ∃ ao cap, v = .slice ao f.length cap := row_nil h.row
theorem EdAt.get {w : World} {v : Value} {R : Nat} {f : List NumD} (h : EdAt w v R f) {i : Nat} (hi : i < f.length) {p q : Int} (hp : f[i]? = some p) (hq : f[(i + 1) % f.length]? = some q) :
    ∃ b o cap, v = .slice (some ⟨b, o, none⟩) f.length cap ∧ w.cell? ⟨b, o + i, none⟩ = some (.slice (some ⟨R, i, none⟩) 2 2) ∧ w.cell? ⟨R, i, none⟩ = some (.int .i64 p) ∧ w.cell? ⟨R, i + 1, none⟩ = some (.int .i64 q) := by
  have hr' : RowAt w v (edgesV R f f.length).length ((edgesV R f f.length).flatMap numsC) := by rw [edgesV_len]; exact h.row
  have he : (edgesV R f f.length)[i]? = some (edgeV R f i) := by simp [edgesV, hi]
  obtain ⟨b, o, cap, e, hc⟩ := row_get 1 numsC numsC_len (by omega) hr' he
  rw [edgesV_len] at e
  obtain ⟨c, hR⟩ := h.rnd
  have h0 := (hR.cells (i := i) (p := p) (by rw [List.getElem?_append_left hi]; exact hp)).1
  have h1 := (hR.cells (i := i + 1) (p := q) (by
    by_cases hl : i + 1 < f.length
    · rw [List.getElem?_append_left hl]
      rw [Nat.mod_eq_of_lt hl] at hq
      exact hq
    · have hl' : i + 1 = f.length := by omega
      rw [List.getElem?_append_right (by omega), hl', Nat.sub_self]
      rw [hl', Nat.mod_self] at hq
      rw [List.getD_eq_getElem?_getD, hq]
      rfl)).1
  exact ⟨b, o, cap, e, by have := hc 0 (.slice (some ⟨R, i, none⟩) 2 2) rfl; simpa using this, h0, h1⟩
theorem EdAt.num {w : World} {v : Value} {R : Nat} {f : List NumD} (h : EdAt w v R f) {i : Nat} (hi : i < f.length) {p q : Int} (hp : f[i]? = some p) (hq : f[(i + 1) % f.length]? = some q) : NumAt w (.slice (some ⟨R, i, none⟩) 2 2) [p, q] := by
  obtain ⟨_, _, _, _, _, h0, h1⟩ := h.get hi hp hq
  refine ⟨some ⟨R, i, none⟩, 2, rfl, fun j x hx => ?_⟩
  match j, hx with
  | 0, hx => cases hx; exact ⟨R, i, rfl, h0⟩
  | 1, hx => cases hx; exact ⟨R, i, rfl, h1⟩
theorem iedgesE (f : List NumD) (v : Value) (w : World) (lo hi : Nat) (ho : NumO w lo hi v f) (hn : f.length ≤ 1048576) (h1 : 1 ≤ f.length) :
    Calls Try.prog 82 #[v] w fun e w' => (∃ v' R, e = .returned v' ∧ EdAt w' v' R f ∧ w.heap.size ≤ R) ∧ Kept w w' :=
  (iedges f v w lo hi ho hn h1).mono fun e w' ⟨⟨v', R, cap, h1, h2, h3, h4⟩, k⟩ => ⟨⟨v', R, h1, ⟨h2, cap, h3⟩, h4⟩, k⟩

end Go.Proofs.Ythohgehhoogpnaa

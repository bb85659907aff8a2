/-
  How few steps lead to each cell, in the program.
-/
import Derived.Test.YtnfkgnbhdhpnmaaOpen13
import Derived.Test.YtnfkgnbhdhpnmaaRep13
import Derived.Test.YtnfkgnbhdhpnmaaBfs13
namespace Go.Proofs.Ytnfkgnbhdhpnmaa
open Go.ChangeShapes Go.WideShapes Go.ChangeAt Go.RowKit

theorem wp_frame {P : Program} {C : Code} {Q : Exit → Act → World → Prop} {w : World} {A : Act} {g : (Nat → Value) → Nat → List Nat → Act} {r0 : List Nat} (h : A = g (fun i => Array.getD A.tmps i undef) 0 r0) (k : ∀ u dn r, dn = 0 → r = r0 → C.wp P Q (g u dn r) w) : C.wp P Q A w := by
  rw [h]
  exact k _ 0 r0 rfl rfl
theorem fr_of {A : Act} {g : (Nat → Value) → Act} (h : A = g (fun i => Array.getD A.tmps i undef)) : ∃ u, A = g u := ⟨_, h⟩
/-- The cell next to one along a way. -/
def nxtM (a b d : Int) (c w : Nat) : Option Nat := if there a b d (c : Int) w = true then some (bes a b d (c : Int) w).toNat else none
theorem nxtM_lt {a b d : Int} {l : List Int} (hg : BlocksP a b d l) {c w k : Nat} (hc : c < l.length) (hw : w < 6) (h : nxtM a b d c w = some k) : k < l.length := by
  unfold nxtM at h
  split at h
  · rename_i ht
    have := bes_lt hg (n := (c : Int)) (by omega) (by omega) hw ht
    cases h
    omega
  · cases h

/-- The search on its way, in memory: the steps in a row of their own, the cells reached in another behind it. -/
structure StF (w W : World) (l : List Int) (F : Nat → Prop) (nxt : Nat → Nat → Option Nat) (ent : Nat → Bool) (g1 cap1 : Nat) (ro : Option Addr) (rcap : Nat) (s : List Int) (r : List Nat) (dn h1 j : Nat) (bs : List Value) : Prop where
  inv : Inv F nxt ent l.length s r dn j
  steps : NumO W (w.heap.size + 1) h1 (.slice (some ⟨g1, 0, none⟩) l.length cap1) s
  reach : NumO W h1 W.heap.size (.slice ro r.length rcap) (r.map (fun c : Nat => (c : Int)))
  kept : Kept w W
  hle : h1 ≤ W.heap.size
  bvar : Loc W w.heap.size bs
theorem start_inv {a b d : Int} {l s : List Int} {first : List Nat} {ent : Nat → Bool} (hsl : s.length = l.length) (hsv : ∀ c, sv s c = if c ∈ first then 0 else -1) (hfr : ∀ c ∈ first, c < l.length) (hnod : first.Nodup) : Inv (fun x => x ∈ first) (nxtM a b d) ent l.length s first 0 0 where
  len := hsl
  rng := hfr
  nod := hnod
  mem := fun c _ => by rw [hsv]; split <;> simp [*]
  val := fun c hc => ⟨0, by rw [hsv, if_pos hc]; rfl, .base hc⟩
  fst := fun c hc => ⟨hc, by rw [hsv, if_pos hc]⟩
  ord := fun i i' c c' _ hc hc' => by rw [hsv, hsv, if_pos (List.mem_of_getElem? hc), if_pos (List.mem_of_getElem? hc')]; exact Int.le_refl _
  near := fun c c' hc hc' => by rw [hsv, hsv, if_pos (List.mem_of_getElem? hc), if_pos hc']; omega
  don := fun i c k hi => by omega
  mid := fun c k _ he => (EW_zero he).elim
  dle := by omega
  bnd := fun c hc => by rw [hsv, if_pos hc]; omega
section
variable {w W W' : World} {l : List Int} {F : Nat → Prop} {nxt : Nat → Nat → Option Nat} {ent : Nat → Bool} {g1 cap1 : Nat} {ro : Option Addr} {rcap : Nat} {s : List Int} {r : List Nat} {dn h1 j : Nat} {bs : List Value}
theorem StF.keep (h : StF w W l F nxt ent g1 cap1 ro rcap s r dn h1 j bs) (k : Kept W W') : StF w W' l F nxt ent g1 cap1 ro rcap s r dn h1 j bs where
  inv := h.inv
  steps := h.steps.kept k
  reach := (h.reach.kept k).mono (Nat.le_refl _) k.size
  kept := h.kept.trans k
  hle := Nat.le_trans h.hle k.size
  bvar := h.bvar.kept k
theorem StF.inv' {dn' j' : Nat} (h : StF w W l F nxt ent g1 cap1 ro rcap s r dn h1 j bs) (hi : Inv F nxt ent l.length s r dn' j') : StF w W l F nxt ent g1 cap1 ro rcap s r dn' h1 j' bs := { h with inv := hi }
theorem StF.grow {k : Nat} {v : Int} {o : Obj} {w2 : World} {ao5 : Option Addr} {cap5 n5 : Nat} (h : StF w W l F nxt ent g1 cap1 ro rcap s r dn h1 j bs) (hi : Inv F nxt ent l.length (s.set k v) (r ++ [k]) dn (j + 1)) (hk : k < l.length)
    (hg : ((W.setCell ⟨g1, k, none⟩ (.int .i64 v)).alloc o).grownBy w2 (Value.slice ro r.length rcap).ownBlock) (hn : n5 = r.length + 1) (hown : w2.ownsRow h1 3 1 (.slice ao5 n5 cap5) (r.length + 1) ((r.map (fun c : Nat => (c : Int))).flatMap numC ++ [.int .i64 (k : Int)])) :
    StF w w2 l F nxt ent g1 cap1 ao5 cap5 (s.set k v) (r ++ [k]) dn h1 (j + 1) bs := by
  subst hn
  have hgl := own_lt h.steps.1 (g := g1) rfl
  have hgh := h.steps.2 g1 rfl
  have hle := h.hle
  have B : But h1 W.heap.size (W.setCell ⟨g1, k, none⟩ (.int .i64 v)) w2 := ((But.refl h1 W.heap.size _).alloc o).grown hg (fun g hg' => .inr ⟨(own_lt h.reach.1 hg').1, (own_lt h.reach.1 hg').2⟩)
  have hst := (h.steps.set h.inv.len.symm (sv_get (s := s) (c := k) (by rw [h.inv.len]; exact hk)) v).but B (.inl (Nat.le_refl _))
  have hsz : W.heap.size ≤ w2.heap.size := by have := B.size; simpa using this
  exact {
    inv := hi
    steps := hst
    reach := by
      have e1 := RowO.top hown
      unfold NumO
      rw [List.length_map, List.length_append, List.map_append, List.flatMap_append]
      exact e1
    kept := (h.kept.setNew (p := ⟨g1, k, none⟩) (by simp; omega) _).onto B (by omega)
    hle := by omega
    bvar := (h.bvar.other (by omega) _).but B (.inl (by omega)) }
end

set_option maxRecDepth 100000
set_option linter.unusedVariables false
set_option maxHeartbeats 16000000 in
theorem isteps (a b d : Int) (l : List Int) (first : List Nat) (p1 p2 : Value) (ao fo : Option Addr) (cap fcap : Nat) (w : World) (hv : NumAt w (.slice ao l.length cap) l) (hg : BlocksP a b d l) (hf : NumAt w (.slice fo first.length fcap) (first.map (fun c : Nat => (c : Int))))
    (hfr : ∀ c ∈ first, c < l.length) (hnod : first.Nodup) (hfl : first.length ≤ 1048576) (ent : Nat → Bool) (hent : ∀ (u : World) (k : Nat), k < l.length → Kept w u → Calls Try.prog 56 #[.int .i64 (k : Int), p1, p2] u fun e u' => e = .returned (.bool (ent k)) ∧ Kept u u') :
    Calls Try.prog 55 #[.agg #[.int .i64 a, .int .i64 b, .int .i64 d, .slice ao l.length cap], .slice fo first.length fcap, .func (.func 56) #[] #[p1, p2]] w fun e w' => ∃ v' s, e = .returned v' ∧ NumO w' w.heap.size w'.heap.size v' s ∧ s.length = l.length ∧ (∀ c, c < l.length → IsDist (fun x => x ∈ first) (EW (nxtM a b d) ent 6) (sv s c) c) ∧ Kept w w' := by
  have hlen := hg.len
  have hvol := hg.edge.vol
  obtain ⟨N, hN⟩ : ∃ N, N = l.length := ⟨_, rfl⟩
  have hNb : 0 < N ∧ N ≤ 512 := by omega
  have HG : Hid (BlocksP a b d l) := hg
  clear hlen hvol hg
  obtain ⟨i0, hi0, hz0, hz1, hz2⟩ := info_parts info_num
  go_enter Try.func55, Try.ntmps55
  repeat (first | go_values | go_skip | go_guarded | go_step | go_upon)
  refine wp_scope_jumps 0 (fun a' w' => ∃ (g1 cap1 : Nat) (ro : Option Addr) (rcap : Nat) (s : List Int) (r : List Nat) (dn h1 : Nat), StF w w' l (fun x => x ∈ first) (nxtM a b d) ent g1 cap1 ro rcap s r dn h1 0 [.int .i64 a, .int .i64 b, .int .i64 d, .slice ao l.length cap] ∧ ∃ (u : Nat → Value), a' = { tmps := #[.agg #[.int .i64 a, .int .i64 b, .int .i64 d, .slice ao l.length cap], .slice fo first.length fcap, .func (.func 56) #[] #[p1, p2], .pointer (some ⟨w.heap.size, 0, none⟩), u 4, u 5, u 6, .slice (some ⟨g1, 0, none⟩) l.length cap1, u 8, u 9, .slice ro r.length rcap, .int .i64 (dn : Int), u 12, u 13, u 14, u 15, u 16, u 17, u 18, u 19, u 20, u 21, u 22, u 23, u 24, u 25, u 26, u 27, u 28, u 29, u 30, u 31, u 32, u 33, u 34, u 35, u 36, u 37, u 38, u 39, u 40, u 41, u 42, u 43, u 44, u 45, u 46, u 47, u 48, u 49, u 50, u 51, u 52, u 53, u 54, u 55, u 56, u 57, u 58, u 59, u 60, u 61, u 62, u 63, u 64, u 65, u 66, u 67, u 68, u 69, u 70, u 71, u 72, u 73, u 74, u 75, u 76, u 77, u 78, u 79, u 80], defers := [] }) (fun a' _ => l.length - (intOf (a'.tmps.getD 11 undef)).toNat) rfl ?_ ?_
  · repeat (first
      | (go_at_call 67; refine (irepeat l.length (w.heap.size + 1) _ (by simp [go_sem]) (by omega) (by omega)).mono ?_; rintro e u1 ⟨v1, rfl, o1, k1⟩; obtain ⟨g1, cap1, ef⟩ := own_some o1 (by simp; omega); subst ef; simp only [List.length_replicate, World.size_alloc] at o1 ⊢; have K1 : Kept w u1 := (((But.refl _ _ _).alloc _).alloc _).trans k1; have L1 := ((Loc.new w [.int .i64 a, .int .i64 b, .int .i64 d, .slice ao l.length cap] 25).alloc (.cells #[.int .i64 (-1)] 3)).kept k1; have v0 := L1.cell 0 rfl; have v1 := L1.cell 1 rfl; have v2 := L1.cell 2 rfl; have v3 := L1.cell 3 rfl; have HO1 : Hid (NumO u1 (w.heap.size + 1 + 1) u1.heap.size (.slice (some ⟨g1, 0, none⟩) l.length cap1) (List.replicate l.length (-1))) := o1; clear o1; (try dsimp only))
      | go_values | go_skip | go_guarded | go_step | go_upon)
    clear v0 v1 v2 v3
    go_loopw [22] (fun i wr => ∃ (k : Nat) (s : List Int), k ≤ first.length ∧ i = .int .i64 k ∧ Hid (NumO wr (w.heap.size + 2) u1.heap.size (.slice (some ⟨g1, 0, none⟩) l.length cap1) s ∧ s.length = l.length ∧ ∀ c, sv s c = if c ∈ first.take k then 0 else -1) ∧ Hid (But g1 (g1 + 1) u1 wr)) (fun i _ => first.length - (intOf i).toNat)
    case atStart =>
      refine ⟨0, _, by omega, rfl, ⟨HO1.out, by simp, fun c => ?_⟩, But.refl _ _ _⟩
      simp [sv, List.getD_eq_getElem?_getD, List.getElem?_replicate]
      split <;> rfl
    case round =>
      obtain ⟨k, s, hk, rfl, HS, HK⟩ := hrel
      have hgl := own_lt HO1.out.1 (g := g1) rfl
      have KR : Kept w wr := K1.onto HK.out (by omega)
      have HKR : Hid (Kept w wr) := KR
      by_cases hlt : k < first.length
      · obtain ⟨c, hc⟩ : ∃ c, first[k]? = some c := ⟨_, List.getElem?_eq_getElem hlt⟩
        have hcl := hfr c (List.mem_of_getElem? hc)
        have hcm : (first.map (fun c : Nat => (c : Int)))[k]? = some (c : Int) := by rw [List.getElem?_map, hc]; rfl
        obtain ⟨fg, fo', fcap', ee, c0⟩ := num_get (hf.kept KR) hcm
        rw [List.length_map] at ee
        cases ee
        obtain ⟨hO, hsl, hsv⟩ := HS.out
        have hsg := sv_get (s := s) (c := c) (by omega)
        obtain ⟨d0, dz⟩ := hO.cells hsg
        have dz0 := dz c
        have h2 := hO.set hsl.symm hsg 0
        have HS2 : Hid (NumO (wr.setCell ⟨g1, c, none⟩ (.int .i64 0)) (w.heap.size + 2) u1.heap.size (.slice (some ⟨g1, 0, none⟩) l.length cap1) (s.set c 0)) := h2
        have HC : Hid (first[k]? = some c) := hc
        have z1 : (0 : Int) ≤ (c : Int) := by omega
        have z2 : (c : Int) < (l.length : Int) := by omega
        have HSL : Hid (s.length = l.length ∧ ∀ c, sv s c = if c ∈ first.take k then 0 else -1) := ⟨hsl, hsv⟩
        clear hO hsl hsv h2 dz hcm hc hsg KR
        repeat (first | go_values | go_skip | go_guarded | go_step | go_upon)
        obtain ⟨hsl, hsv⟩ := HSL.out
        refine ⟨⟨k + 1, s.set c 0, hlt, by go_num, ⟨HS2.out, by rw [List.length_set]; exact hsl, fun x => ?_⟩, HK.out.setCell (by simp) (by simp) _⟩, by simp [intOf]; omega⟩
        rw [sv_set _ _ _ _ (by omega), take_snoc HC.out, hsv]
        by_cases e : x = c
        · subst e; simp
        · simp [e]
      · have hke : k = first.length := by omega
        subst hke
        have hn : NumO wr w.heap.size wr.heap.size (.slice (some ⟨g1, 0, none⟩) l.length cap1) s := NumO.mono HS.out.1 (by omega) HK.out.size
        repeat (first
          | (go_at_call 50; refine (iclone (first.map (fun c : Nat => (c : Int))) _ _ (by have h := hf.kept HKR.out; exact h) (by simp; omega)).mono ?_; rintro e u2 ⟨v2, rfl, o2, k2⟩; obtain ⟨ro, rcap, ef⟩ := o2.form; rw [List.length_map] at ef; subst ef; have HO2 : Hid (NumO u2 wr.heap.size u2.heap.size (.slice ro first.length rcap) (first.map (fun c : Nat => (c : Int)))) := o2; have HK2 : Hid (Kept wr u2) := k2; clear o2 k2; (try dsimp only))
          | go_values | go_skip | go_guarded | go_step | go_upon)
        have hnod2 := hnod
        have HS0 : Hid _ := HS
        obtain ⟨h1, hh1⟩ : ∃ x, x = u1.heap.size := ⟨_, rfl⟩
        have H0 : StF w u2 l (fun x => x ∈ first) (nxtM a b d) ent g1 cap1 ro rcap s first 0 h1 0 [.int .i64 a, .int .i64 b, .int .i64 d, .slice ao l.length cap] := by
          obtain ⟨hO, hsl, hsv⟩ := HS.out
          rw [List.take_length] at hsv
          have hwr := HK.out.size
          have hu2 := HK2.out.size
          exact {
            inv := start_inv hsl hsv hfr hnod
            steps := by rw [hh1]; exact NumO.mono (hO.kept HK2.out) (by omega) (Nat.le_refl _)
            reach := by rw [hh1]; exact NumO.mono HO2.out hwr (Nat.le_refl _)
            kept := HKR.out.trans HK2.out
            hle := by omega
            bvar := (L1.but HK.out (.inl (by omega))).kept HK2.out }
        refine wp_frame (g := fun u dn r => { tmps := #[.agg #[.int .i64 a, .int .i64 b, .int .i64 d, .slice ao l.length cap], .slice fo first.length fcap, .func (.func 56) #[] #[p1, p2], .pointer (some ⟨w.heap.size, 0, none⟩), u 4, u 5, u 6, .slice (some ⟨g1, 0, none⟩) l.length cap1, u 8, u 9, .slice ro r.length rcap, .int .i64 (dn : Int), u 12, u 13, u 14, u 15, u 16, u 17, u 18, u 19, u 20, u 21, u 22, u 23, u 24, u 25, u 26, u 27, u 28, u 29, u 30, u 31, u 32, u 33, u 34, u 35, u 36, u 37, u 38, u 39, u 40, u 41, u 42, u 43, u 44, u 45, u 46, u 47, u 48, u 49, u 50, u 51, u 52, u 53, u 54, u 55, u 56, u 57, u 58, u 59, u 60, u 61, u 62, u 63, u 64, u 65, u 66, u 67, u 68, u 69, u 70, u 71, u 72, u 73, u 74, u 75, u 76, u 77, u 78, u 79, u 80], defers := [] }) (r0 := first) rfl ?_
        intro u dn r hdn hr
        have HH : Hid (StF w u2 l (fun x => x ∈ first) (nxtM a b d) ent g1 cap1 ro rcap s r dn h1 0 [.int .i64 a, .int .i64 b, .int .i64 d, .slice ao l.length cap]) := by show StF _ _ _ _ _ _ _ _ _ _ _ _ _ _ _ _; rw [hdn, hr]; exact H0
        clear H0 hdn hr hh1 HS HK HO1 HO2 HK2 HKR hn HS0 hgl L1 K1 k1 hlt hk
        dsimp only
        go_step3
        have hdl := HH.out.inv.dle
        have hrs := HH.out.inv.small
        by_cases hd : dn = r.length
        · have db : ((dn : Int) == (r.length : Int)) = true := by rw [hd]; simp
          repeat (first | go_values | go_skip | go_guarded | go_step | go_upon)
          simp only [Exit.jump]
          go_ret
          subst hd
          have hb1 := HH.out.bvar.lt
          exact ⟨_, s, rfl, (HH.out.steps.mono (by omega) HH.out.hle), HH.out.inv.len, HH.out.inv.fin, HH.out.kept⟩
        · have db : ((dn : Int) == (r.length : Int)) = false := by simp; omega
          have hdlt : dn < r.length := by omega
          repeat (first | go_values | go_skip | go_guarded | go_step | go_upon)
          clear db
          go_loopw [10, 37] (fun x i wr => ∃ (j : Nat) (ro' : Option Addr) (rcap' : Nat) (s' : List Int) (r' : List Nat), j ≤ 6 ∧ i = .int .i64 j ∧ x = .slice ro' r'.length rcap' ∧ dn < r'.length ∧ Hid (StF w wr l (fun x => x ∈ first) (nxtM a b d) ent g1 cap1 ro' rcap' s' r' dn h1 j [.int .i64 a, .int .i64 b, .int .i64 d, .slice ao l.length cap])) (fun _ i _ => 6 - (intOf i).toNat)
          case atStart => exact ⟨0, ro, rcap, s, r, by omega, rfl, rfl, hdlt, HH⟩
          case round =>
            clear HH hdl hrs hd hdlt
            obtain ⟨j, ro', rcap', s', r', hj, rfl, rfl, hdlt, HH⟩ := hrel
            have hrs := HH.out.inv.small
            by_cases hlj : j < 6
            · obtain ⟨c, hc⟩ : ∃ c, r'[dn]? = some c := ⟨_, List.getElem?_eq_getElem hdlt⟩
              have hcr := List.mem_of_getElem? hc
              have hcN := HH.out.inv.rng c hcr
              have hcm : (r'.map (fun c : Nat => (c : Int)))[dn]? = some (c : Int) := by rw [List.getElem?_map, hc]; rfl
              obtain ⟨rg, rcf, ee⟩ := own_some HH.out.reach (by rw [List.length_map]; omega)
              rw [List.length_map] at ee
              cases ee
              have c0 := (HH.out.reach.cells hcm).1
              have v0 := HH.out.bvar.cell 0 rfl
              have v1 := HH.out.bvar.cell 1 rfl
              have v2 := HH.out.bvar.cell 2 rfl
              have v3 := HH.out.bvar.cell 3 rfl
              have vl := HH.out.bvar.lt
              have cl := cell_ltG c0
              have HC : Hid (r'[dn]? = some c) := hc
              have zd : (dn : Int) < (r'.length : Int) := by omega
              clear hcm hc
              have hvv := HG.out.len
              have CBK : ∀ u : World, Calls Try.prog 65 #[.agg #[.int .i64 a, .int .i64 b, .int .i64 d, .slice ao l.length cap], .int .i64 (c : Int), .int .i64 (j : Int)] u fun e w' => e = .returned (.tuple #[.int .i64 (bes a b d (c : Int) j), .bool (there a b d (c : Int) j)]) ∧ Kept u w' := fun u => ibes a b d (c : Int) j (.slice ao l.length cap) u HG.out.edge (by omega) (by omega) hlj
              have HCB : Hid _ := CBK
              clear hvv CBK
              repeat (first | go_values | go_skip | go_guarded | go_step | go_upon)
              refine wp_region_kept (by kernel_rfl) (by kernel_rfl) ?_
              have hcc := KW.cell_eq wr
              repeat (go_big_quiet_step (first | (go_at_call 65; with_reducible exact kw_call (HCB.out _)) | fail))
              refine wpQuiet_nil ?_
              rintro w9 ⟨⟨w8, k9⟩, h9⟩
              change w9 = w8 at h9
              subst h9
              clear hcc
              have HH9 : Hid (StF w w9 l (fun x => x ∈ first) (nxtM a b d) ent g1 cap1 (some ⟨rg, 0, none⟩) rcap' s' r' dn h1 j [.int .i64 a, .int .i64 b, .int .i64 d, .slice ao l.length cap]) := HH.out.keep k9
              have c9 := Kept.cell k9 c0
              clear HH k9 c0 v0 v1 v2 v3 vl cl
              cases q2 : there a b d (c : Int) j with
              | false =>
                have hnx : nxtM a b d c j = none := by unfold nxtM; rw [q2]; rfl
                repeat (first | go_values | go_skip | go_guarded | go_step | go_upon)
                refine ⟨⟨j + 1, _, _, s', r', hlj, by go_num, rfl, hdlt, HH9.out.inv' (HH9.out.inv.skip hlj HC.out (fun k hk => by rw [hnx] at hk; cases hk) (fun k hk => by rw [hnx] at hk; cases hk))⟩, by simp [intOf]; omega⟩
              | true =>
                obtain ⟨b0, b1⟩ := bes_lt HG.out (n := (c : Int)) (by omega) (by omega) hlj q2
                obtain ⟨k, hkb⟩ := Int.eq_ofNat_of_zero_le b0
                have hnx : nxtM a b d c j = some k := by unfold nxtM; rw [q2, hkb]; rfl
                rw [hkb] at b0 b1 ⊢
                have hkN : k < l.length := by omega
                obtain ⟨d0, dz⟩ := HH9.out.steps.cells (sv_get (s := s') (c := k) (by rw [HH9.out.inv.len]; exact hkN))
                have dz0 := dz k
                have HX : Hid (nxtM a b d c j = some k) := hnx
                clear dz hkb hnx b0
                by_cases hs : sv s' k = -1
                · have ds : (sv s' k == -1) = true := by simpa using hs
                  rw [hs] at d0
                  cases q3 : ent k with
                  | false =>
                    have HE : Hid (ent k = false) := q3
                    repeat (first | (go_at_call 56; refine (hent _ k hkN HH9.out.kept).mono ?_; rintro e u5 ⟨rfl, k5⟩; rw [HE.out]; (try dsimp only)) | go_values | go_skip | go_guarded | go_step | go_upon)
                    refine ⟨⟨j + 1, _, _, s', r', hlj, by go_num, rfl, hdlt, (HH9.out.keep k5).inv' (HH9.out.inv.skip hlj HC.out (fun k' hk => by rw [HX.out] at hk; cases hk; exact hkN) (fun k' hk he => by rw [HX.out] at hk; cases hk; rw [HE.out] at he; cases he))⟩, by simp [intOf]; omega⟩
                  | true =>
                    have HE : Hid (ent k = true) := q3
                    have hcv : 0 ≤ sv s' c ∧ sv s' c ≤ 512 := by
                      obtain ⟨m, hm, _⟩ := HH9.out.inv.val c hcr
                      have := HH9.out.inv.bnd c hcr
                      omega
                    obtain ⟨hcv1, hcv2⟩ := hcv
                    have HTK := HH9.out.inv.take hlj HC.out HX.out hkN HE.out hs
                    have HTK : Hid _ := HTK
                    have XS : ∀ (u : World) (v : Value), (u.setCell ⟨g1, k, none⟩ v).heap.size = u.heap.size := fun u v => by simp
                    repeat (first
                      | (go_at_call 56; refine (hent _ k hkN HH9.out.kept).mono ?_; rintro e u5 ⟨rfl, k5⟩; rw [HE.out]; have HH5 : Hid _ := HH9.out.keep k5; have e0 := Kept.cell k5 c9; have e1 := (HH5.out.steps.cells (sv_get (s := s') (c := c) (by rw [HH5.out.inv.len]; exact hcN))).1; have e2 := Kept.cell k5 d0; have e3 := (HH5.out.steps.cells (sv_get (s := s') (c := k) (by rw [HH5.out.inv.len]; exact hkN))).2 k; have hrl := own_lt HH5.out.reach.1 (g := rg) rfl; have hgh := HH5.out.steps.2 g1 rfl; have ne1 : rg ≠ g1 := (by omega); (try dsimp only))
                      | (at_builtin
                         refine wpList_append_own _ rfl _ _ 23 rfl h1 3 i0 (.int .i64 0) 1 8 Try.underlying23 hi0 hz0 hz1 hz2 rfl (by decide) (.slice (some ⟨rg, 0, none⟩) r'.length rcap') r'.length ((r'.map (fun c : Nat => (c : Int))).flatMap numC) rfl (by have h := HH5.out.reach.1; rw [List.length_map] at h; exact own_kept (own_but h ((But.refl g1 (g1 + 1) u5).setCell (p := ⟨g1, k, none⟩) (by simp) (by simp) (.int .i64 (sv s' c + 1))) (fun g hg => by cases hg; show rg < g1 ∨ g1 + 1 ≤ rg; omega)) ((But.refl _ _ _).alloc _)) ⟨u5.heap.size, 0, none⟩ 1 1 [.int .i64 (k : Int)] rfl rfl (by have hx := news1 (Loc.new (u5.setCell ⟨g1, k, none⟩ (.int .i64 (sv s' c + 1))) [.int .i64 (k : Int)] 3); rw [XS] at hx; exact hx) (by simp [Value.oneCell']) (by unfold maxLen; omega) (by omega) (by simp; have := HH5.out.hle; omega) ?_
                         intro v' w2 hown' hgrow _
                         obtain ⟨ao5, cap5, hf5, _⟩ := own_form hown'
                         subst hf5
                         have HN : Hid (StF w w2 l (fun x => x ∈ first) (nxtM a b d) ent g1 cap1 ao5 cap5 (s'.set k (sv s' c + 1)) (r' ++ [k]) dn h1 (j + 1) [.int .i64 a, .int .i64 b, .int .i64 d, .slice ao l.length cap]) := HH5.out.grow HTK.out hkN hgrow rfl hown'
                         clear hgrow hown')
                      | go_values | go_skip | go_guarded | go_step | go_upon)
                    refine ⟨⟨j + 1, ao5, cap5, s'.set k (sv s' c + 1), r' ++ [k], hlj, by go_num, by simp, by simp; omega, HN⟩, by simp [intOf]; omega⟩
                · have ds : (sv s' k == -1) = false := by simpa using hs
                  repeat (first | go_values | go_skip | go_guarded | go_step | go_upon)
                  refine ⟨⟨j + 1, _, _, s', r', hlj, by go_num, rfl, hdlt, HH9.out.inv' (HH9.out.inv.skip hlj HC.out (fun k' hk => by rw [HX.out] at hk; cases hk; exact hkN) (fun k' hk _ => by rw [HX.out] at hk; cases hk; exact hs))⟩, by simp [intOf]; omega⟩
            · have hje : j = 6 := by omega
              subst hje
              repeat (first | go_values | go_skip | go_guarded | go_step | go_upon)
              go_step3
              rw [show ((dn : Int) + 1) = ((dn + 1 : Nat) : Int) by omega]
              refine ⟨rfl, ⟨g1, cap1, ro', rcap', s', r', dn + 1, h1, HH.out.inv' (HH.out.inv.next hdlt), fr_of ?h⟩⟩
              case h => rfl
  · rintro a' W ⟨g1, cap1, ro, rcap, s, r, dn, h1, H, u, rfl⟩
    have HH : Hid (StF w W l (fun x => x ∈ first) (nxtM a b d) ent g1 cap1 ro rcap s r dn h1 0 [.int .i64 a, .int .i64 b, .int .i64 d, .slice ao l.length cap]) := H
    clear H
    have hdl := HH.out.inv.dle
    have hrs := HH.out.inv.small
    by_cases hd : dn = r.length
    · have db : ((dn : Int) == (r.length : Int)) = true := by rw [hd]; simp
      repeat (first | go_values | go_skip | go_guarded | go_step | go_upon)
      simp only [Exit.jump]
      go_ret
      subst hd
      have hb1 := HH.out.bvar.lt
      exact ⟨_, s, rfl, (HH.out.steps.mono (by omega) HH.out.hle), HH.out.inv.len, HH.out.inv.fin, HH.out.kept⟩
    · have db : ((dn : Int) == (r.length : Int)) = false := by simp; omega
      have hdlt : dn < r.length := by omega
      repeat (first | go_values | go_skip | go_guarded | go_step | go_upon)
      clear db
      go_loopw [10, 37] (fun x i wr => ∃ (j : Nat) (ro' : Option Addr) (rcap' : Nat) (s' : List Int) (r' : List Nat), j ≤ 6 ∧ i = .int .i64 j ∧ x = .slice ro' r'.length rcap' ∧ dn < r'.length ∧ Hid (StF w wr l (fun x => x ∈ first) (nxtM a b d) ent g1 cap1 ro' rcap' s' r' dn h1 j [.int .i64 a, .int .i64 b, .int .i64 d, .slice ao l.length cap])) (fun _ i _ => 6 - (intOf i).toNat)
      case atStart => exact ⟨0, ro, rcap, s, r, by omega, rfl, rfl, hdlt, HH⟩
      case round =>
        clear HH hdl hrs hd hdlt
        obtain ⟨j, ro', rcap', s', r', hj, rfl, rfl, hdlt, HH⟩ := hrel
        have hrs := HH.out.inv.small
        by_cases hlj : j < 6
        · obtain ⟨c, hc⟩ : ∃ c, r'[dn]? = some c := ⟨_, List.getElem?_eq_getElem hdlt⟩
          have hcr := List.mem_of_getElem? hc
          have hcN := HH.out.inv.rng c hcr
          have hcm : (r'.map (fun c : Nat => (c : Int)))[dn]? = some (c : Int) := by rw [List.getElem?_map, hc]; rfl
          obtain ⟨rg, rcf, ee⟩ := own_some HH.out.reach (by rw [List.length_map]; omega)
          rw [List.length_map] at ee
          cases ee
          have c0 := (HH.out.reach.cells hcm).1
          have v0 := HH.out.bvar.cell 0 rfl
          have v1 := HH.out.bvar.cell 1 rfl
          have v2 := HH.out.bvar.cell 2 rfl
          have v3 := HH.out.bvar.cell 3 rfl
          have vl := HH.out.bvar.lt
          have cl := cell_ltG c0
          have HC : Hid (r'[dn]? = some c) := hc
          have zd : (dn : Int) < (r'.length : Int) := by omega
          clear hcm hc
          have hvv := HG.out.len
          have CBK : ∀ u : World, Calls Try.prog 65 #[.agg #[.int .i64 a, .int .i64 b, .int .i64 d, .slice ao l.length cap], .int .i64 (c : Int), .int .i64 (j : Int)] u fun e w' => e = .returned (.tuple #[.int .i64 (bes a b d (c : Int) j), .bool (there a b d (c : Int) j)]) ∧ Kept u w' := fun u => ibes a b d (c : Int) j (.slice ao l.length cap) u HG.out.edge (by omega) (by omega) hlj
          have HCB : Hid _ := CBK
          clear hvv CBK
          repeat (first | go_values | go_skip | go_guarded | go_step | go_upon)
          refine wp_region_kept (by kernel_rfl) (by kernel_rfl) ?_
          have hcc := KW.cell_eq wr
          repeat (go_big_quiet_step (first | (go_at_call 65; with_reducible exact kw_call (HCB.out _)) | fail))
          refine wpQuiet_nil ?_
          rintro w9 ⟨⟨w8, k9⟩, h9⟩
          change w9 = w8 at h9
          subst h9
          clear hcc
          have HH9 : Hid (StF w w9 l (fun x => x ∈ first) (nxtM a b d) ent g1 cap1 (some ⟨rg, 0, none⟩) rcap' s' r' dn h1 j [.int .i64 a, .int .i64 b, .int .i64 d, .slice ao l.length cap]) := HH.out.keep k9
          have c9 := Kept.cell k9 c0
          clear HH k9 c0 v0 v1 v2 v3 vl cl
          cases q2 : there a b d (c : Int) j with
          | false =>
            have hnx : nxtM a b d c j = none := by unfold nxtM; rw [q2]; rfl
            repeat (first | go_values | go_skip | go_guarded | go_step | go_upon)
            refine ⟨⟨j + 1, _, _, s', r', hlj, by go_num, rfl, hdlt, HH9.out.inv' (HH9.out.inv.skip hlj HC.out (fun k hk => by rw [hnx] at hk; cases hk) (fun k hk => by rw [hnx] at hk; cases hk))⟩, by simp [intOf]; omega⟩
          | true =>
            obtain ⟨b0, b1⟩ := bes_lt HG.out (n := (c : Int)) (by omega) (by omega) hlj q2
            obtain ⟨k, hkb⟩ := Int.eq_ofNat_of_zero_le b0
            have hnx : nxtM a b d c j = some k := by unfold nxtM; rw [q2, hkb]; rfl
            rw [hkb] at b0 b1 ⊢
            have hkN : k < l.length := by omega
            obtain ⟨d0, dz⟩ := HH9.out.steps.cells (sv_get (s := s') (c := k) (by rw [HH9.out.inv.len]; exact hkN))
            have dz0 := dz k
            have HX : Hid (nxtM a b d c j = some k) := hnx
            clear dz hkb hnx b0
            by_cases hs : sv s' k = -1
            · have ds : (sv s' k == -1) = true := by simpa using hs
              rw [hs] at d0
              cases q3 : ent k with
              | false =>
                have HE : Hid (ent k = false) := q3
                repeat (first | (go_at_call 56; refine (hent _ k hkN HH9.out.kept).mono ?_; rintro e u5 ⟨rfl, k5⟩; rw [HE.out]; (try dsimp only)) | go_values | go_skip | go_guarded | go_step | go_upon)
                refine ⟨⟨j + 1, _, _, s', r', hlj, by go_num, rfl, hdlt, (HH9.out.keep k5).inv' (HH9.out.inv.skip hlj HC.out (fun k' hk => by rw [HX.out] at hk; cases hk; exact hkN) (fun k' hk he => by rw [HX.out] at hk; cases hk; rw [HE.out] at he; cases he))⟩, by simp [intOf]; omega⟩
              | true =>
                have HE : Hid (ent k = true) := q3
                have hcv : 0 ≤ sv s' c ∧ sv s' c ≤ 512 := by
                  obtain ⟨m, hm, _⟩ := HH9.out.inv.val c hcr
                  have := HH9.out.inv.bnd c hcr
                  omega
                obtain ⟨hcv1, hcv2⟩ := hcv
                have HTK := HH9.out.inv.take hlj HC.out HX.out hkN HE.out hs
                have HTK : Hid _ := HTK
                have XS : ∀ (u : World) (v : Value), (u.setCell ⟨g1, k, none⟩ v).heap.size = u.heap.size := fun u v => by simp
                repeat (first
                  | (go_at_call 56; refine (hent _ k hkN HH9.out.kept).mono ?_; rintro e u5 ⟨rfl, k5⟩; rw [HE.out]; have HH5 : Hid _ := HH9.out.keep k5; have e0 := Kept.cell k5 c9; have e1 := (HH5.out.steps.cells (sv_get (s := s') (c := c) (by rw [HH5.out.inv.len]; exact hcN))).1; have e2 := Kept.cell k5 d0; have e3 := (HH5.out.steps.cells (sv_get (s := s') (c := k) (by rw [HH5.out.inv.len]; exact hkN))).2 k; have hrl := own_lt HH5.out.reach.1 (g := rg) rfl; have hgh := HH5.out.steps.2 g1 rfl; have ne1 : rg ≠ g1 := (by omega); (try dsimp only))
                  | (at_builtin
                     refine wpList_append_own _ rfl _ _ 23 rfl h1 3 i0 (.int .i64 0) 1 8 Try.underlying23 hi0 hz0 hz1 hz2 rfl (by decide) (.slice (some ⟨rg, 0, none⟩) r'.length rcap') r'.length ((r'.map (fun c : Nat => (c : Int))).flatMap numC) rfl (by have h := HH5.out.reach.1; rw [List.length_map] at h; exact own_kept (own_but h ((But.refl g1 (g1 + 1) u5).setCell (p := ⟨g1, k, none⟩) (by simp) (by simp) (.int .i64 (sv s' c + 1))) (fun g hg => by cases hg; show rg < g1 ∨ g1 + 1 ≤ rg; omega)) ((But.refl _ _ _).alloc _)) ⟨u5.heap.size, 0, none⟩ 1 1 [.int .i64 (k : Int)] rfl rfl (by have hx := news1 (Loc.new (u5.setCell ⟨g1, k, none⟩ (.int .i64 (sv s' c + 1))) [.int .i64 (k : Int)] 3); rw [XS] at hx; exact hx) (by simp [Value.oneCell']) (by unfold maxLen; omega) (by omega) (by simp; have := HH5.out.hle; omega) ?_
                     intro v' w2 hown' hgrow _
                     obtain ⟨ao5, cap5, hf5, _⟩ := own_form hown'
                     subst hf5
                     have HN : Hid (StF w w2 l (fun x => x ∈ first) (nxtM a b d) ent g1 cap1 ao5 cap5 (s'.set k (sv s' c + 1)) (r' ++ [k]) dn h1 (j + 1) [.int .i64 a, .int .i64 b, .int .i64 d, .slice ao l.length cap]) := HH5.out.grow HTK.out hkN hgrow rfl hown'
                     clear hgrow hown')
                  | go_values | go_skip | go_guarded | go_step | go_upon)
                refine ⟨⟨j + 1, ao5, cap5, s'.set k (sv s' c + 1), r' ++ [k], hlj, by go_num, by simp, by simp; omega, HN⟩, by simp [intOf]; omega⟩
            · have ds : (sv s' k == -1) = false := by simpa using hs
              repeat (first | go_values | go_skip | go_guarded | go_step | go_upon)
              refine ⟨⟨j + 1, _, _, s', r', hlj, by go_num, rfl, hdlt, HH9.out.inv' (HH9.out.inv.skip hlj HC.out (fun k' hk => by rw [HX.out] at hk; cases hk; exact hkN) (fun k' hk _ => by rw [HX.out] at hk; cases hk; exact hs))⟩, by simp [intOf]; omega⟩
        · have hje : j = 6 := by omega
          subst hje
          repeat (first | go_values | go_skip | go_guarded | go_step | go_upon)
          go_step3
          rw [show ((dn : Int) + 1) = ((dn + 1 : Nat) : Int) by omega]
          refine ⟨rfl, ⟨g1, cap1, ro', rcap', s', r', dn + 1, h1, HH.out.inv' (HH.out.inv.next hdlt), fr_of ?h⟩, ?m⟩
          case h => rfl
          case m => simp [intOf]; omega

end Go.Proofs.Ytnfkgnbhdhpnmaa

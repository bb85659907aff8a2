/-
  Whether a node is another one or hangs on it, in the program.
-/
import Derived.Test.YtcljppnakmeldaaDown
namespace Go.Proofs.Ytcljppnakmeldaa
open Go.ChangeShapes Go.WideShapes Go.ChangeAt Go.RowKit Go.Shelf

attribute [local go_sem] Oper.semAt_some

set_option maxRecDepth 100000 in
set_option maxHeartbeats 4000000 in
theorem hangsOn (l : List NodeD) (v : Value) (a c : Int) (xs : List UpE) (hch : Chain l a xs) (w : World) (hv : NodeAt w v l) :
    Calls Try.prog 61 #[v, .int .i64 a, .int .i64 c] w fun e w' => e = .returned (.bool (xs.any fun x => x.1 == c)) ∧ Kept w w' := by
  obtain ⟨ao, cap, hsl⟩ := row_nil hv
  subst hsl
  refine (callsIn_wide (n := 5)).1 ?_
  refine callsIn_of_wp_marks Try.func61 rfl trivial ?_ rfl
  simp only [Try.ntmps61, List.size_toArray, List.length_cons, List.length_nil, Nat.reduceAdd, Nat.reduceSub, Array.replicate_succ, Array.replicate_zero, List.push_toArray, List.append_toArray, List.nil_append, List.cons_append]
  gi_wp2_with (refine ⟨trivial, ?_⟩; gi_at_call 75; refine (up_in _ _ trivial rfl _ _ _ _ _).mono ?_; rintro e w' ⟨rfl, rfl⟩)
  have bC := (((Boxed.new w 3 (.int .i64 c)).alloc (.cells #[.bool false] 4)).alloc (.cells #[.slice ao l.length cap] 29)).alloc (.cells #[.int .i64 a] 3)
  have bR := ((Boxed.new (w.alloc (.cells #[.int .i64 c] 3)) 4 (.bool false)).alloc (.cells #[.slice ao l.length cap] 29)).alloc (.cells #[.int .i64 a] 3)
  have bL := (Boxed.new ((w.alloc (.cells #[.int .i64 c] 3)).alloc (.cells #[.bool false] 4)) 29 (.slice ao l.length cap)).alloc (.cells #[.int .i64 a] 3)
  have bA := Boxed.new (((w.alloc (.cells #[.int .i64 c] 3)).alloc (.cells #[.bool false] 4)).alloc (.cells #[.slice ao l.length cap] 29)) 3 (.int .i64 a)
  simp only [World.size_alloc] at bR bL bA
  have hB0 : Below w.heap.size w ((((w.alloc (.cells #[.int .i64 c] 3)).alloc (.cells #[.bool false] 4)).alloc (.cells #[.slice ao l.length cap] 29)).alloc (.cells #[.int .i64 a] 3)) := ((((Below.refl _ w).alloc (Nat.le_refl _) _).alloc (by simp) _).alloc (by simp; omega) _).alloc (by simp; omega) _
  have hsz : ((((w.alloc (.cells #[.int .i64 c] 3)).alloc (.cells #[.bool false] 4)).alloc (.cells #[.slice ao l.length cap] 29)).alloc (.cells #[.int .i64 a] 3)).heap.size = w.heap.size + 4 := by simp
  obtain ⟨W0, hW0⟩ : ∃ W0, (((w.alloc (.cells #[.int .i64 c] 3)).alloc (.cells #[.bool false] 4)).alloc (.cells #[.slice ao l.length cap] 29)).alloc (.cells #[.int .i64 a] 3) = W0 := ⟨_, rfl⟩
  rw [hW0] at bC bR bL bA hB0 hsz ⊢
  clear hW0
  have hrow : ∀ A B, Bu (w.heap.size + 1) (w.heap.size + 4) A B → NodeAt A (.slice ao l.length cap) l → NodeAt B (.slice ao l.length cap) l := by
    rintro A B hAB ⟨ao', cap', e, hc⟩
    cases e
    refine ⟨ao, cap, rfl, fun j x hx => ?_⟩
    obtain ⟨b, o, rfl, h1⟩ := hc j x hx
    obtain ⟨ao2, cap2, e2, hc2⟩ := hv
    cases e2
    obtain ⟨b2, o2, e3, h3⟩ := hc2 j x hx
    cases e3
    have hb := World.block_lt_of_cell? w _ h3
    dsimp only at hb
    exact ⟨b, o, rfl, hAB.cell (a := ⟨b, o + j, none⟩) (by dsimp only; omega) (by dsimp only; omega) h1⟩
  refine wpIn_rangeFunc_ownG rfl (by omega) (gf := 80) (lb := #[.pointer (some ⟨w.heap.size + 1 + 1 + 1, 0, none⟩), .pointer (some ⟨w.heap.size + 1 + 1, 0, none⟩)]) rfl trivial (enters_of Try.func80 (by kernel_rfl) rfl)
    (up_stops Fence.wide _ trivial rfl (by omega) (w.heap.size + 1) (w.heap.size + 4) (w.heap.size + 1 + 1 + 1) (w.heap.size + 1 + 1) l ao cap a xs hch W0 bA.cell bL.cell (NodeAt.kept hv (Below.keptOf hB0)) (by omega) (by omega) hrow)
    Bu.trans (Bu.put (by omega)) (Below.refl _ _) (fun _ => rfl)
    (fun pre W => (Boxed W w.heap.size 3 (.int .i64 c) ∧ Boxed W (w.heap.size + 1) 4 (.bool false)) ∧ (∀ x ∈ pre, (x.1 == c) = false) ∧ Below w.heap.size w W)
    (fun cd pre W => Boxed W (w.heap.size + 1) 4 (.bool true) ∧ (cd = .ret ∧ ∃ x ∈ pre, (x.1 == c) = true) ∧ Below w.heap.size w W)
    (OwnFrom.and (OwnFrom.and (Own.from (boxed_own _ _ _) _) (Own.from (boxed_own _ _ _) _)) (OwnFrom.and (fun _ _ _ _ hs _ _ => hs) (ownFrom_below (Nat.le_refl _) (by omega))))
    (fun cd => OwnFrom.and (Own.from (boxed_own _ _ _) _) (OwnFrom.and (fun _ _ _ _ hs _ _ => hs) (ownFrom_below (Nat.le_refl _) (by omega))))
    ⟨⟨bC, bR⟩, by simp, hB0⟩
    (fun x => { tmps := #[.slice ao l.length cap, .int .i64 a, .int .i64 c, undef, undef, .pointer (some ⟨w.heap.size, 0, none⟩), .pointer (some ⟨w.heap.size + 1, 0, none⟩), .int .i64 x.1, .slice ao l.length cap, .int .i64 a, .func (.func 80) #[] #[.pointer (some ⟨w.heap.size + 1 + 1 + 1, 0, none⟩), .pointer (some ⟨w.heap.size + 1 + 1, 0, none⟩)], .int .i64 x.1, nv x.2, undef, undef, undef], defers := [] }) ?assign ?body ?done ?stop
  case assign =>
    intro lp x W K hK
    gi_wp2
    exact hK
  case body =>
    rintro lp pre x W ⟨⟨hc, hr⟩, hno, hB⟩ hlt
    have c1 := hc.cell
    have r1 := hr.cell
    have r2 := hr.frozen
    cases hx : (x.1 == c) with
    | false =>
      gi_wp2
      refine ⟨KeepsFrom.refl _ _, ⟨Nat.le_refl _, fun _ _ _ => rfl⟩, ⟨hc, hr⟩, fun y hy => ?_, hB⟩
      rcases List.mem_append.1 hy with hy | hy
      · exact hno y hy
      · simp only [List.mem_singleton] at hy
        subst hy
        exact hx
    | true =>
      gi_wp2
      exact ⟨(KeepsOthers.setCell _ _ _).from _, hr.set _, ⟨rfl, x, by simp, hx⟩, hB.setCell (p := ⟨w.heap.size + 1, 0, none⟩) (by simp) _⟩
  case done =>
    rintro D ys W hD rfl ⟨⟨hc, hr⟩, hno, hB⟩ hK
    have r1 := hr.cell
    have r2 := hr.frozen
    have hany : (ys.any fun x => x.1 == c) = false := by
      rw [List.any_eq_false]
      intro x hx
      simpa using hno x hx
    have HA : Hid _ := hany
    clear hany
    gi_wp2
    have hr' := hr.set (.bool false)
    have hK' : (W.setCell ⟨w.heap.size + 1, 0, none⟩ (.bool false)).heap[D]? = some (.deferred (some [])) := (KeepsOthers.setCell _ _ _).same D _ hK rfl
    have hcell := cell_kept hr'.cell (grownBy_putObj' _ D (.deferred none)) (fun r e => by cases e; exact ⟨_, hK', rfl⟩)
    refine ⟨by simp, .inl ⟨_, _, rfl, run_takeDeferred hK', ?_⟩⟩
    refine ⟨.bool false, by simp [results, Try.results61, go_sem, hcell], ?_, ?_⟩
    · rw [HA.out]
    · exact Below.keptOf ((hB.setCell (p := ⟨w.heap.size + 1, 0, none⟩) (by simp) _).trans (belowK_b (w := w) (Nat.le_refl _) _ D _ _ (by omega) hK' rfl rfl))
  case stop =>
    rintro D cd pre W hD hpre ⟨hr, ⟨rfl, x, hx, hxc⟩, hB⟩ hK
    have r1 := hr.cell
    have hany : (xs.any fun x => x.1 == c) = true := List.any_eq_true.2 ⟨x, hpre.subset hx, hxc⟩
    have HA : Hid _ := hany
    clear hany
    gi_wp2
    have hcell := cell_kept hr.cell (grownBy_putObj' _ D (.deferred none)) (fun r e => by cases e; exact ⟨_, hK, rfl⟩)
    refine ⟨by simp, .inl ⟨_, _, rfl, run_takeDeferred hK, ?_⟩⟩
    refine ⟨.bool true, by simp [results, Try.results61, go_sem, hcell], ?_, ?_⟩
    · rw [HA.out]
    · exact Below.keptOf (hB.trans (belowK_b (w := w) (Nat.le_refl _) _ D _ _ (by omega) hK rfl rfl))
end Go.Proofs.Ytcljppnakmeldaa

/-
  What the search by halving answers (l1Over): the greatest number up to a bound whose product is not above.
-/
import Derived.Test.YtapfafibhjpkdaaWide
import Derived.Deep.RegionWith
namespace Go.Proofs.Ytapfafibhjpkdaa
open Go.ChangeShapes Go.WideShapes Go.ChangeAt Go.RowKit

theorem gblock {W w1 : World} (h : Grown W w1) (b : Nat) (hb : b < W.heap.size) : w1.heap[b]? = W.heap[b]? := by
  have hk := h.1.2.2 b hb
  cases e1 : W.heap[b]? with
  | none => rw [e1] at hk; simpa using hk
  | some o =>
    rw [e1] at hk
    cases e2 : w1.heap[b]? with
    | none => rw [e2] at hk; cases o <;> simp at hk
    | some o' =>
      rw [e2] at hk
      cases o <;> cases o' <;> simp at hk ⊢ <;> first
        | exact hk
        | (obtain ⟨h1, h2, h3, h4⟩ := hk; exact ⟨Array.ext_getElem? h4, h1, h2⟩)
        | skip

theorem gcell {W w1 : World} (h : Grown W w1) : (∀ b o, b < W.heap.size → w1.cell? ⟨b, o, none⟩ = W.cell? ⟨b, o, none⟩) :=
  fun b o hb => World.cell?_of_block (w := W) (a := ⟨b, o, none⟩) (gblock h b hb)


set_option maxHeartbeats 1000000 in
theorem over_any (n b most : Int) (w : World) (hn : 0 ≤ n) (hb : 0 < b) (hb' : b < 18446744073709551616) (hm : 0 ≤ most) (hm' : most < 4611686018427387904) :
    Calls Try.prog 113 #[.agg #[.int .u64 (n/18446744073709551616), .int .u64 (n%18446744073709551616)], .int .u64 b, .int .u64 most] w fun e w' => (∃ q : Int, e = .returned (.int .u64 q) ∧ 0 ≤ q ∧ q ≤ most ∧ q * b ≤ n ∧ (q = most ∨ n < (q + 1) * b)) ∧ Grown w w' := by
  go_enter Try.func113, Try.ntmps113
  go_wp2
  go_loopw [7, 8] (fun x y wr => ∃ lo hi : Int, x = .int .u64 lo ∧ y = .int .u64 hi ∧ 0 ≤ lo ∧ lo ≤ hi ∧ hi ≤ most ∧ lo * b ≤ n ∧ (hi = most ∨ n < (hi + 1) * b) ∧ Grown (w.alloc (.cells #[.int .u64 (n/18446744073709551616), .int .u64 (n%18446744073709551616)] 106)) wr) (fun x y _ => (intOf y - intOf x).toNat)
  case atStart => exact ⟨0, most, rfl, rfl, by omega, by omega, by omega, by omega, Or.inl rfl, Grown.refl _⟩
  case round =>
    obtain ⟨lo, hi, rfl, rfl, h1, h2, h3, h4, h5, hg⟩ := hrel
    have hz : w.heap.size < wr.heap.size := by have := hg.2.2; simp at this; omega
    have c0 : wr.cell? ⟨w.heap.size, 0, none⟩ = some (.int .u64 (n/18446744073709551616)) := by rw [gcell hg _ _ (by simp)]; simp [go_sem]
    have c1 : wr.cell? ⟨w.heap.size, 1, none⟩ = some (.int .u64 (n%18446744073709551616)) := by rw [gcell hg _ _ (by simp)]; simp [go_sem]
    by_cases hlt : lo < hi
    · go_wp2_with fail
      go_region_with (first
        | (go_at_call 79; refine (times_any _ _ _ (by omega) (by omega) (by omega) (by omega)).mono ?_; rintro e w1 ⟨rfl, hg1⟩; have k0 := (gcell hg1 _ 0 (by exact hz)).trans c0; have k1 := (gcell hg1 _ 1 (by exact hz)).trans c1)
        | (go_at_call 120; refine (less_any n ((lo + (hi - lo + 1) / 2) * b) _).mono ?_; rintro e w2 ⟨rfl, hg2⟩))
      all_goals
        by_cases hq : n < (lo + (hi - lo + 1) / 2) * b
        · go_wp2
          go_roundw
          case rel => exact ⟨lo, lo + (hi - lo + 1) / 2 - 1, rfl, rfl, by omega, by omega, by omega, h4, Or.inr (by rw [show lo + (hi - lo + 1) / 2 - 1 + 1 = lo + (hi - lo + 1) / 2 from by omega]; exact hq), gtrans (gtrans hg hg1) hg2⟩
          case measure => simp [intOf]; omega
        · go_wp2
          go_roundw
          case rel => exact ⟨lo + (hi - lo + 1) / 2, hi, rfl, rfl, by omega, by omega, by omega, by omega, h5, gtrans (gtrans hg hg1) hg2⟩
          case measure => simp [intOf]; omega
    · go_wp2
      go_ret
      have e : lo = hi := by omega
      subst e
      exact ⟨⟨lo, rfl, h1, h3, h4, h5⟩, gtrans ((Grown.refl _).alloc _ _) hg⟩
end Go.Proofs.Ytapfafibhjpkdaa

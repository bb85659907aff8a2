/-
  What the drawing of texts and of short numbers answers.
-/
import Derived.Test.YtcljppnakmeldaaDrawS
import Derived.Deep.RegionLaw
import Derived.Deep.RegionHeld3
namespace Go.Proofs.Ytcljppnakmeldaa
open Go.ChangeShapes Go.WideShapes Go.ChangeAt Go.RowKit

/-- A list of texts lies in block l. -/
def ListedT (w : World) (l : Nat) (zs : List ByteArray) : Prop := ∀ i, i < zs.length → w.cell? ⟨l, i, none⟩ = some (.string (zs.getD i ByteArray.empty))
theorem ListedT.of {w : World} {l : Nat} {zs : List ByteArray} (h : Loc w l (zs.map fun z => .string z)) : ListedT w l zs := fun i hi => by
  refine h.cell i ?_
  rw [List.getElem?_map, List.getD_eq_getElem?_getD, List.getElem?_eq_getElem hi]
  rfl
/-- A text for which P holds is answered. -/
def DrawnW (b : Nat) (K : Int) (P : ByteArray → Prop) (w : World) (e : Ending) (w' : World) : Prop := ∃ s, e = .returned (.string s) ∧ P s ∧ CurOk w' b K ∧ But b (b + 1) w w'

set_option maxHeartbeats 400000 in
theorem of_ok (w : World) (b l : Nat) (K : Int) (zs : List ByteArray) (h : CurOk w b K) (hK : K ≤ 1152921504606846900) (hl : l ≠ b) (hz : ListedT w l zs) (h1 : 1 < zs.length) (h2 : zs.length ≤ 1000) (n : Nat) (hn : n = zs.length) :
    Calls Try.prog 77 #[.pointer (some ⟨b, 0, none⟩), .slice (some ⟨l, 0, none⟩) n n] w (DrawnW b (K + 2) (fun z => z ∈ zs) w) := by
  have n1 : 1 < n := by omega
  have n2 : n ≤ 1000 := by omega
  have Hn : Hid (n = zs.length) := hn
  clear hn h1 h2
  go_enter Try.func77, Try.ntmps77
  go_wp2_with fail
  refine (pick_ok _ b K n h hK (by omega)).mono ?_
  rintro e w1 ⟨x, rfl, hx, hC, hg⟩
  obtain ⟨k, rfl⟩ := Int.eq_ofNat_of_zero_le hx.1
  have hk : k < n := by omega
  have ck := hg.cell (hz k (by have := Hn.out; omega)) (by show l < b ∨ b + 1 ≤ l; omega)
  have hm : Hid (zs.getD k ByteArray.empty ∈ zs) := by
    have hk' : k < zs.length := by have := Hn.out; omega
    show zs.getD k ByteArray.empty ∈ zs
    rw [List.getD_eq_getElem?_getD, List.getElem?_eq_getElem hk']
    exact List.getElem_mem hk'
  generalize zs.getD k ByteArray.empty = z at *
  go_wp2
  go_ret
  exact ⟨z, rfl, hm.out, hC, hg⟩

theorem cv1 (u : World) (c : Int) : (convert 22 9 (.slice (some ⟨u.heap.size, 0, none⟩) 1 1)).run Try.prog (u.alloc (.cells #[.int .u8 c] 5)) = .ok (.string (strOfNums [c])) (u.alloc (.cells #[.int .u8 c] 5)) :=
  run_convert_bytes_arg _ 22 5 Try.underlying22 Try.underlying5 u.heap.size 0 1 1 [c] rfl (fun i hi => by
    obtain rfl : i = 0 := by omega
    simp [go_sem]) 9 Try.underlying9
theorem cv_kept {u w1 : World} {c : Int} {g : Nat} (k : Kept (u.alloc (.cells #[.int .u8 c] 5)) w1) (hg : u.heap.size = g) : (convert 22 9 (.slice (some ⟨g, 0, none⟩) 1 1)).run Try.prog w1 = .ok (.string (strOfNums [c])) w1 := by
  subst hg
  exact
    run_convert_bytes_arg _ 22 5 Try.underlying22 Try.underlying5 u.heap.size 0 1 1 [c] rfl (fun i hi => by
    obtain rfl : i = 0 := by omega
    exact k.cell (by simp [go_sem])) 9 Try.underlying9
set_option maxRecDepth 20000 in
theorem num_low (n : Int) (w : World) (h0 : 0 ≤ n) (h1 : n < 10) : Calls Try.prog 78 #[.int .i64 n] w fun e w' => ∃ s, e = .returned (.string s) ∧ s.size = 1 ∧ Kept w w' := by
  have hcv := cv1
  have d0 : decide (n < 0) = false := by simp; omega
  have d1 : decide (n < 10) = true := by simp; omega
  go_enter Try.func78, Try.ntmps78
  go_wp2
  go_ret
  exact ⟨_, rfl, one_size _, (But.refl _ _ _).alloc _⟩
set_option maxRecDepth 20000 in
theorem num_ok (n : Int) (w : World) (h0 : 0 ≤ n) (h1 : n < 100) : Calls Try.prog 78 #[.int .i64 n] w fun e w' => ∃ s, e = .returned (.string s) ∧ s.size ≤ 2 ∧ Kept w w' := by
  by_cases hl : n < 10
  · refine (num_low n w h0 hl).mono ?_
    rintro e w' ⟨s, he, hs, k⟩
    exact ⟨s, he, by omega, k⟩
  · have hcv := cv1
    have d0 : decide (n < 0) = false := by simp; omega
    have d1 : decide (n < 10) = false := by simp; omega
    go_enter Try.func78, Try.ntmps78
    have q0 : 0 ≤ n / 10 := by omega
    have q1 : n / 10 < 10 := by omega
    have q2 : n.tdiv 10 = n / 10 := Int.tdiv_eq_ediv_of_nonneg h0
    have hcv3 : ∀ (u : World) (c : Int), (convert 22 9 (.slice (some ⟨u.heap.size, 0, none⟩) 1 1)).run Try.prog (u.alloc (.cells #[.int .u8 c] 5)).drew = .ok (.string (strOfNums [c])) (u.alloc (.cells #[.int .u8 c] 5)).drew := fun u c => cv_kept ((But.refl 0 0 _).drew) rfl
    have q3 : IntKind.i64.wrap (n / 10) = n / 10 := IntWalk.i64_in _ (by omega)
    have hos : ∀ c : Int, (strOfNums [c]).size = 1 := one_size
    go_wp2_with fail
    go_region_law (first
      | (go_simp
         go_at_call 78
         refine (num_low _ _ (by omega) (by omega)).mono ?_
         rintro e w1 ⟨s1, rfl, hs1, k1⟩
         have hz : ¬ 9223372036854775807 < s1.size + 1 := (by omega)
         try have hcv2 := cv_kept (But.trans ((But.refl 0 0 _).drew) k1) rfl))
    all_goals
      go_wp2
      go_ret
      refine ⟨s1 ++ strOfNums [IntKind.u8.wrap (IntKind.i64.wrap (48 + n.tmod 10))], rfl, ?_, ?_⟩
      · rw [ByteArray.size_append, hs1, hos]
        omega
      · first
        | exact (But.trans ((But.refl 0 0 w).drew) k1).alloc _
        | exact But.trans (((But.refl 0 0 w).alloc _).drew) k1
end Go.Proofs.Ytcljppnakmeldaa

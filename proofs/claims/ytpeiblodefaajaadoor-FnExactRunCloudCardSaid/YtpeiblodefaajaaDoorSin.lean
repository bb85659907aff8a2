/-
  What the sines and cosines answer, in the program and in its specification: the numbers sinM and cosM, where the table lies as the program lays it.
-/
import Derived.Test.YtpeiblodefaajaaDoorRows
import Derived.WalkKit
import Derived.ProofKit
import Derived.OpenShut
import Derived.Handy
import Derived.Deep.QuietTactic
import Derived.BigQuiet
namespace Go.Proofs.YtpeiblodefaajaaDoor
open Go.ChangeShapes Go.WideShapes Go.ChangeAt Go.RowKit

def zs17 : List Int := [0, 6424, 12785, 19024, 25080, 30893, 36410, 41576, 46341, 50660, 54491, 57798, 60547, 62714, 64277, 65220, 65536]
def tab (i : Nat) : Int := zs17.getD i 0
/-- The program's table lies in block 0. -/
def Tab (w : World) : Prop := ∀ i, i < 17 → w.cell? ⟨0, i, none⟩ = some (.int .i64 (tab i))

theorem gtransQ {a b c : World} (h : Grown a b) (k : Grown b c) : Grown a c :=
  ⟨World.keptBut_trans h.1 k.1, fun x => (k.2.1 x).trans (h.2.1 x), Nat.le_trans h.2.2 k.2.2⟩
theorem gblockQ {W w1 : World} (h : Grown W w1) (b : Nat) (hb : b < W.heap.size) : w1.heap[b]? = W.heap[b]? := by
  have hk := h.1.2.2 b hb
  cases e1 : W.heap[b]? with
  | none => rw [e1] at hk; simpa using hk
  | some o =>
    rw [e1] at hk
    cases e2 : w1.heap[b]? with
    | none => rw [e2] at hk; cases o <;> simp at hk
    | some o' =>
      rw [e2] at hk
      cases o <;> cases o' <;> simp at hk ⊢ <;> first
        | exact hk
        | (obtain ⟨h1, h2, h3, h4⟩ := hk; exact ⟨Array.ext_getElem? h4, h1, h2⟩)
        | skip
theorem gcellQ {W w1 : World} (h : Grown W w1) : (∀ b o, b < W.heap.size → w1.cell? ⟨b, o, none⟩ = W.cell? ⟨b, o, none⟩) :=
  fun b o hb => World.cell?_of_block (w := W) (a := ⟨b, o, none⟩) (gblockQ h b hb)
theorem Tab.size {w : World} (h : Tab w) : 0 < w.heap.size := by
  have h0 := h 0 (by decide)
  rcases Nat.eq_zero_or_pos w.heap.size with hz | hz
  · simp [World.cell?, Array.eq_empty_of_size_eq_zero hz] at h0
  · exact hz
theorem Tab.grown {w w1 : World} (h : Tab w) (g : Grown w w1) : Tab w1 := fun i hi => (gcellQ g 0 i h.size).trans (h i hi)
theorem retSi {k : IntKind} {a b : Int} (h : a = b) : Ending.returned (.int k a) = .returned (.int k b) := by rw [h]

theorem tab_bd (i : Nat) : 0 ≤ tab i ∧ tab i ≤ 65536 := by
  rcases Nat.lt_or_ge i 17 with h | h
  · have : ∀ j, j < 17 → 0 ≤ tab j ∧ tab j ≤ 65536 := by decide
    exact this i h
  · have : tab i = 0 := by unfold tab zs17; rw [List.getD_eq_getElem?_getD, List.getElem?_eq_none (by simpa using h)]; rfl
    rw [this]; decide
theorem mulSi_bd (x u m n : Int) (h0 : 0 ≤ x) (h : x ≤ m) (k0 : 0 ≤ u) (k : u ≤ n) : 0 ≤ x * u ∧ x * u ≤ m * n :=
  ⟨Int.mul_nonneg h0 k0, Int.mul_le_mul h k k0 (by omega)⟩

/-- The sine of a part of the first quarter. -/
def sq (q r : Nat) : Int := (tab q * (64 - r) + tab (q + 1) * r + 32) / 64
theorem sq_bd (q r : Nat) (hr : r < 64) : 0 ≤ sq q r ∧ sq q r ≤ 65536 := by
  have b1 := tab_bd q
  have b2 := tab_bd (q + 1)
  have e1 : tab q * (64 - r) ≤ 65536 * (64 - r) := Int.mul_le_mul_of_nonneg_right b1.2 (by omega)
  have e2 : tab (q + 1) * r ≤ 65536 * r := Int.mul_le_mul_of_nonneg_right b2.2 (by omega)
  have e3 : 0 ≤ tab q * (64 - r) := Int.mul_nonneg b1.1 (by omega)
  have e4 : 0 ≤ tab (q + 1) * r := Int.mul_nonneg b2.1 (by omega)
  unfold sq
  omega
theorem sq_zero (q : Nat) : sq q 0 = tab q := by
  have b1 := tab_bd q
  unfold sq
  simp only [Int.natCast_zero, Int.sub_zero, Int.mul_zero]
  omega
theorem blend_val (q r : Nat) (hr : r < 64) : wrap64 ((wrap64 (wrap64 (wrap64 (tab q * (64 - (r : Int) % 64)) + wrap64 (tab (q + 1) * ((r : Int) % 64))) + 32)).tdiv 64) = sq q r := by
  have b1 := tab_bd q
  have b2 := tab_bd (q + 1)
  have e0 : (r : Int) % 64 = r := by omega
  rw [e0]
  have e1 := mulSi_bd (tab q) (64 - r) 65536 64 b1.1 b1.2 (by omega) (by omega)
  have e2 := mulSi_bd (tab (q + 1)) r 65536 64 b2.1 b2.2 (by omega) (by omega)
  rw [IntWalk.wrap64_in (tab q * (64 - r)) (by omega), IntWalk.wrap64_in (tab (q + 1) * r) (by omega), IntWalk.wrap64_in (tab q * (64 - r) + tab (q + 1) * r) (by omega), IntWalk.wrap64_in (tab q * (64 - r) + tab (q + 1) * r + 32) (by omega), Int.tdiv_eq_ediv_of_nonneg (by omega), IntWalk.wrap64_in _ (by omega)]
  rfl

set_option maxHeartbeats 400000 in
theorem half_at (q : Nat) (w : World) (h : q ≤ 16) (hT : Tab w) :
    Calls Tryd.prog 86 #[.int .i64 (64 * (q : Int))] w fun e w' => e = .returned (.int .i64 (sq q 0)) ∧ Grown w w' := by
  have c0 := hT q (by omega)
  rw [sq_zero]
  go_enter Tryd.func86, Tryd.ntmps86
  go_wp2
  go_ret
  exact ⟨rfl, Grown.refl _⟩

set_option maxHeartbeats 400000 in
theorem half_in (q r : Nat) (w : World) (h : q ≤ 15) (h1 : 0 < r) (h2 : r < 64) (hT : Tab w) :
    Calls Tryd.prog 86 #[.int .i64 (64 * (q : Int) + r)] w fun e w' => e = .returned (.int .i64 (sq q r)) ∧ Grown w w' := by
  have c0 := hT q (by omega)
  have c1 := hT (q + 1) (by omega)
  have dr : ((r : Int) == 0) = false := beq_eq_false_iff_ne.2 (by omega)
  go_enter Tryd.func86, Tryd.ntmps86
  go_wp2
  have e1 : (64 * (q : Int) + r) / 64 = q := by omega
  have e2 : (r : Int) % 64 = r := by omega
  rw [e1, e2]
  clear e1 e2
  have e3 : IntKind.i64.wrap ((q : Int) + 1) = ((q + 1 : Nat) : Int) := by rw [IntWalk.i64_in _ (by omega)]; omega
  go_quiet (fail)
  go_wp2
  go_ret
  exact ⟨retSi (blend_val q r h2), Grown.refl _⟩

set_option maxHeartbeats 400000 in
theorem half_at' (p : Int) (q : Nat) (w : World) (h : q ≤ 15) (hp : 2048 - p = 64 * (q : Int)) (h1 : 1024 < p) (hT : Tab w) :
    Calls Tryd.prog 86 #[.int .i64 p] w fun e w' => e = .returned (.int .i64 (sq q 0)) ∧ Grown w w' := by
  have c0 := hT q (by omega)
  rw [sq_zero]
  go_enter Tryd.func86, Tryd.ntmps86
  go_wp2
  go_ret
  exact ⟨rfl, Grown.refl _⟩

set_option maxHeartbeats 400000 in
theorem half_in' (p : Int) (q r : Nat) (w : World) (h : q ≤ 15) (h1 : 0 < r) (h2 : r < 64) (hp : 2048 - p = 64 * (q : Int) + r) (h3 : 1024 < p) (hT : Tab w) :
    Calls Tryd.prog 86 #[.int .i64 p] w fun e w' => e = .returned (.int .i64 (sq q r)) ∧ Grown w w' := by
  have c0 := hT q (by omega)
  have c1 := hT (q + 1) (by omega)
  have dr : ((r : Int) == 0) = false := beq_eq_false_iff_ne.2 (by omega)
  go_enter Tryd.func86, Tryd.ntmps86
  go_wp2
  have e1 : (64 * (q : Int) + r) / 64 = q := by omega
  have e2 : (r : Int) % 64 = r := by omega
  rw [e1, e2]
  clear e1 e2
  have e3 : IntKind.i64.wrap ((q : Int) + 1) = ((q + 1 : Nat) : Int) := by rw [IntWalk.i64_in _ (by omega)]; omega
  go_quiet (fail)
  go_wp2
  go_ret
  exact ⟨retSi (blend_val q r h2), Grown.refl _⟩

def sqI (p : Int) : Int := sq (p / 64).toNat (p % 64).toNat
def halfM (p : Int) : Int := if 1024 < p then sqI (2048 - p) else sqI p
def sinM (a : Int) : Int := if 2048 ≤ a % 4096 then -halfM (a % 4096 - 2048) else halfM (a % 4096)
def cosM (a : Int) : Int := sinM (a % 4096 + 1024)

theorem sqI_eq (q r : Nat) (hr : r < 64) : sqI (64 * (q : Int) + r) = sq q r := by
  unfold sqI
  rw [show ((64 * (q : Int) + r) / 64).toNat = q from by omega, show ((64 * (q : Int) + r) % 64).toNat = r from by omega]
theorem sqI_bd (p : Int) : 0 ≤ sqI p ∧ sqI p ≤ 65536 := sq_bd _ _ (by omega)
theorem halfM_bd (p : Int) : 0 ≤ halfM p ∧ halfM p ≤ 65536 := by unfold halfM; split <;> exact sqI_bd _
theorem sinM_bd (a : Int) : -65536 ≤ sinM a ∧ sinM a ≤ 65536 := by
  unfold sinM
  have h1 := halfM_bd (a % 4096 - 2048)
  have h2 := halfM_bd (a % 4096)
  split <;> omega
theorem cosM_bd (a : Int) : -65536 ≤ cosM a ∧ cosM a ≤ 65536 := sinM_bd _

theorem half_any (p : Int) (w : World) (h0 : 0 ≤ p) (h1 : p ≤ 2048) (hT : Tab w) :
    Calls Tryd.prog 86 #[.int .i64 p] w fun e w' => e = .returned (.int .i64 (halfM p)) ∧ Grown w w' := by
  by_cases hp : 1024 < p
  · rw [show halfM p = sqI (2048 - p) from if_pos hp]
    obtain ⟨q, hq⟩ := Int.eq_ofNat_of_zero_le (show 0 ≤ (2048 - p) / 64 by omega)
    obtain ⟨r, hr⟩ := Int.eq_ofNat_of_zero_le (show 0 ≤ (2048 - p) % 64 by omega)
    have e : 2048 - p = 64 * (q : Int) + r := by omega
    rw [e, sqI_eq q r (by omega)]
    by_cases hz : r = 0
    · subst hz
      exact half_at' p q w (by omega) (by omega) hp hT
    · exact half_in' p q r w (by omega) (by omega) (by omega) e hp hT
  · rw [show halfM p = sqI p from if_neg hp]
    obtain ⟨q, hq⟩ := Int.eq_ofNat_of_zero_le (show 0 ≤ p / 64 by omega)
    obtain ⟨r, hr⟩ := Int.eq_ofNat_of_zero_le (show 0 ≤ p % 64 by omega)
    have e : p = 64 * (q : Int) + r := by omega
    rw [e, sqI_eq q r (by omega)]
    by_cases hz : r = 0
    · subst hz
      have := half_at q w (by omega) hT
      rw [show 64 * (q : Int) + ((0 : Nat) : Int) = 64 * (q : Int) from by omega]
      exact this
    · exact half_in q r w (by omega) (by omega) (by omega) hT

theorem tmod_neg (a b : Int) (hb : 0 < b) (h : a.tmod b < 0) : a.tmod b + b = a % b := by
  have e := Int.mul_tdiv_add_tmod a b
  have e2 := Int.mul_ediv_add_emod a b
  have hm : -b < a.tmod b := by have := Int.lt_tmod_of_pos a hb; omega
  have h1 := Int.emod_nonneg a (b := b) (by omega)
  have h2 := Int.emod_lt_of_pos a hb
  have h3 : a = (a.tmod b + b) + b * (a.tdiv b - 1) := by rw [Int.mul_sub]; omega
  have h4 : a % b = (a.tmod b + b) % b := by
    conv => lhs; rw [h3]
    rw [Int.add_mul_emod_self_left]
  rw [h4, Int.emod_eq_of_lt (by omega) (by omega)]
theorem tmod_pos (a b : Int) (hb : 0 < b) (h : 0 ≤ a.tmod b) : a.tmod b = a % b := by
  have e := Int.mul_tdiv_add_tmod a b
  have h2 := Int.tmod_lt_of_pos a hb
  have h3 : a = a.tmod b + b * a.tdiv b := by omega
  have h4 : a % b = (a.tmod b) % b := by
    conv => lhs; rw [h3]
    rw [Int.add_mul_emod_self_left]
  rw [h4, Int.emod_eq_of_lt h h2]

theorem around_any (a : Int) (w : World) :
    Calls Tryd.prog 85 #[.int .i64 a] w fun e w' => e = .returned (.int .i64 (a % 4096)) ∧ w' = w := by
  go_enter Tryd.func85, Tryd.ntmps85
  go_wp2
  · have e := tmod_neg a 4096 (by decide) ‹_›
    go_ret
    exact ⟨retSi (by rw [e, IntWalk.wrap64_in _ (by omega)]), rfl⟩
  · have e := tmod_pos a 4096 (by decide) ‹_›
    go_ret
    exact ⟨retSi e, rfl⟩

theorem isin_any (a : Int) (w : World) (hT : Tab w) :
    Calls Tryd.prog 72 #[.int .i64 a] w fun e w' => e = .returned (.int .i64 (sinM a)) ∧ Grown w w' := by
  have b0 : 0 ≤ a % 4096 := by omega
  have b1 : a % 4096 < 4096 := by omega
  have hb := halfM_bd (a % 4096 - 2048)
  by_cases h : 2048 ≤ a % 4096
  · rw [show sinM a = -halfM (a % 4096 - 2048) from if_pos h]
    go_enter Tryd.func72, Tryd.ntmps72
    go_wp2_with (first
      | (go_at_call 85; refine (around_any _ _).mono ?_; rintro e w' ⟨rfl, rfl⟩)
      | (go_at_call 86; refine (half_any _ _ (by omega) (by omega) hT).mono ?_; rintro e w1 ⟨rfl, hg⟩))
    go_ret
    exact ⟨rfl, hg⟩
  · rw [show sinM a = halfM (a % 4096) from if_neg h]
    have h' : decide (2048 ≤ a % 4096) = false := by simpa using h
    go_enter Tryd.func72, Tryd.ntmps72
    go_wp2_with (first
      | (go_at_call 85; refine (around_any _ _).mono ?_; rintro e w' ⟨rfl, rfl⟩)
      | (go_at_call 86; refine (half_any _ _ (by omega) (by omega) hT).mono ?_; rintro e w1 ⟨rfl, hg⟩))
    go_ret
    exact ⟨rfl, hg⟩

theorem icos_any (a : Int) (w : World) (hT : Tab w) :
    Calls Tryd.prog 71 #[.int .i64 a] w fun e w' => e = .returned (.int .i64 (cosM a)) ∧ Grown w w' := by
  have b0 : 0 ≤ a % 4096 := by omega
  have b1 : a % 4096 < 4096 := by omega
  go_enter Tryd.func71, Tryd.ntmps71
  go_wp2_with (first
    | (go_at_call 85; refine (around_any _ _).mono ?_; rintro e w' ⟨rfl, rfl⟩)
    | (go_at_call 72; refine (isin_any (a % 4096 + 1024) _ hT).mono ?_; rintro e w1 ⟨rfl, hg⟩))
  go_ret
  exact ⟨rfl, hg⟩

theorem ediv_ofQ (x q d : Int) (hd : 0 < d) (h1 : q * d ≤ x) (h2 : x < (q + 1) * d) : x / d = q := by
  have a1 : q ≤ x / d := (Int.le_ediv_iff_mul_le hd).2 h1
  have a2 : x / d < q + 1 := (Int.ediv_lt_iff_lt_mul hd).2 h2
  omega
theorem down_negQ (a b : Int) (hb : 0 < b) (h : a.tmod b < 0) : a.tdiv b - 1 = a / b := by
  have e := Int.mul_tdiv_add_tmod a b
  have hm : -b < a.tmod b := by have := Int.lt_tmod_of_pos a hb; omega
  refine (ediv_ofQ a (a.tdiv b - 1) b hb ?_ ?_).symm
  · rw [Int.sub_mul, Int.mul_comm (a.tdiv b) b]; omega
  · rw [show a.tdiv b - 1 + 1 = a.tdiv b from by omega, Int.mul_comm]; omega
theorem down_posQ (a b : Int) (hb : 0 < b) (h : 0 ≤ a.tmod b) : a.tdiv b = a / b := by
  have e := Int.mul_tdiv_add_tmod a b
  have hm : a.tmod b < b := Int.tmod_lt_of_pos a hb
  refine (ediv_ofQ a (a.tdiv b) b hb ?_ ?_).symm
  · rw [Int.mul_comm]; omega
  · rw [Int.add_mul, Int.mul_comm (a.tdiv b) b]; omega
theorem tmod_le (a b : Int) (h : a < 0) : a.tmod b ≤ 0 := by
  have h1 := Int.tmod_nonneg b (show 0 ≤ -a by omega)
  rw [Int.neg_tmod] at h1
  omega

set_option maxHeartbeats 400000 in
theorem down_any (a : Int) (w : World) (h1 : -9223372036854775808 ≤ a) (h2 : a ≤ 9223372036854775807) :
    Calls Tryd.prog 81 #[.int .i64 a, .int .i64 4096] w fun e w' => e = .returned (.int .i64 (a / 4096)) ∧ w' = w := by
  go_enter Tryd.func81, Tryd.ntmps81
  go_wp2
  · rename_i h
    have e := down_posQ a 4096 (by decide) (by omega)
    go_ret
    exact ⟨retSi e, rfl⟩
  · rename_i h0 h
    have e := down_negQ a 4096 (by decide) (by have := tmod_le a 4096 h.2; omega)
    go_ret
    exact ⟨retSi (by rw [e, IntWalk.wrap64_in _ (by omega)]), rfl⟩
  · rename_i h0 h
    have e := down_posQ a 4096 (by decide) (by
      rcases h with h | h
      · simp at h; omega
      · exact Int.tmod_nonneg _ h)
    go_ret
    exact ⟨retSi e, rfl⟩

theorem mod_any (a : Int) (w : World) (h1 : -9223372036854775808 ≤ a) (h2 : a ≤ 9223372036854775807) :
    Calls Tryd.prog 63 #[.int .i64 a, .int .i64 4096] w fun e w' => e = .returned (.int .i64 (a % 4096)) ∧ w' = w := by
  go_enter Tryd.func63, Tryd.ntmps63
  go_wp2_with (go_at_call 81; refine (down_any _ _ h1 h2).mono ?_; rintro e w' ⟨rfl, rfl⟩)
  go_ret
  exact ⟨retSi (by omega), rfl⟩

def tabBlock : Obj := .cells (zs17.map fun z => Value.int .i64 z).toArray 3
theorem tab_cell (w : World) (i : Nat) (hi : i < 17) : (w.alloc tabBlock).cell? ⟨w.heap.size, i, none⟩ = some (.int .i64 (tab i)) := by
  have e : (w.alloc tabBlock).heap[w.heap.size]? = some tabBlock := (MapKept.heap_alloc w _).1
  have h : (zs17.map fun z => Value.int .i64 z).toArray[i]? = some (.int .i64 (tab i)) := by
    have hl : i < zs17.length := hi
    simp [tab, List.getD_eq_getElem?_getD, hl]
  simp only [World.cell?, e]
  exact h

theorem table_any (w : World) :
    Calls Tryd.prog 64 #[] w fun e w' => e = .returned (.slice (some ⟨w.heap.size, 0, none⟩) 17 17) ∧ (∀ i, i < 17 → w'.cell? ⟨w.heap.size, i, none⟩ = some (.int .i64 (tab i))) ∧ Grown w w' := by
  go_enter Tryd.func64, Tryd.ntmps64
  go_wp2
  go_ret
  exact ⟨rfl, fun i hi => tab_cell w i hi, (Grown.refl _).alloc _ _⟩

theorem mod_small (a : Int) (w : World) (h1 : 0 ≤ a) (h2 : a < 4096) :
    Calls Tryd.prog 63 #[.int .i64 a, .int .i64 4096] w fun e w' => e = .returned (.int .i64 a) ∧ w' = w := by
  refine (mod_any a w (by omega) (by omega)).mono ?_
  rintro e w' ⟨rfl, rfl⟩
  exact ⟨retSi (by omega), rfl⟩

set_option maxHeartbeats 400000 in
theorem ssin_1024 (w : World) : Calls Tryd.prog 43 #[.int .i64 1024] w fun e w' => e = .returned (.int .i64 65536) ∧ Grown w w' := by
  go_enter Tryd.func43, Tryd.ntmps43
  go_wp2_with (go_at_call 63; refine (mod_small _ _ (by decide) (by decide)).mono ?_; rintro e w' ⟨rfl, rfl⟩)
  go_ret
  exact ⟨rfl, Grown.refl _⟩

set_option maxHeartbeats 1000000 in
theorem ssin_low (q r : Nat) (w : World) (h : q ≤ 15) (h2 : r < 64) :
    Calls Tryd.prog 43 #[.int .i64 (64 * (q : Int) + r)] w fun e w' => e = .returned (.int .i64 (sq q r)) ∧ Grown w w' := by
  have d1 : decide (2048 ≤ 64 * (q : Int) + r) = false := by simp; omega
  have d2 : decide (1024 < 64 * (q : Int) + r) = false := by simp; omega
  have d3 : (64 * (q : Int) + r == 1024) = false := beq_eq_false_iff_ne.2 (by omega)
  go_enter Tryd.func43, Tryd.ntmps43
  go_wp2_with (first
    | (go_at_call 63; refine (mod_small _ _ (by omega) (by omega)).mono ?_; rintro e w' ⟨rfl, rfl⟩)
    | (go_at_call 64; refine (table_any _).mono ?_; rintro e w1 ⟨rfl, hc, hg⟩; have c0 := hc q (by omega); have c1 := hc (q + 1) (by omega); have hc' : Hid _ := hc; clear hc))
  have e1 : (64 * (q : Int) + r) / 64 = q := by omega
  have e3 : IntKind.i64.wrap ((q : Int) + 1) = ((q + 1 : Nat) : Int) := by rw [IntWalk.i64_in _ (by omega)]; omega
  rw [e1]
  clear e1
  go_quiet (fail)
  go_wp2
  go_ret
  exact ⟨retSi (blend_val q r h2), hg⟩

theorem sqI_1024 : sqI 1024 = 65536 := by decide

theorem ssin_quarter (p : Int) (w : World) (h0 : 0 ≤ p) (h1 : p ≤ 1024) :
    Calls Tryd.prog 43 #[.int .i64 p] w fun e w' => e = .returned (.int .i64 (sqI p)) ∧ Grown w w' := by
  by_cases h : p = 1024
  · subst h
    rw [sqI_1024]
    exact ssin_1024 w
  · obtain ⟨q, hq⟩ := Int.eq_ofNat_of_zero_le (show 0 ≤ p / 64 by omega)
    obtain ⟨r, hr⟩ := Int.eq_ofNat_of_zero_le (show 0 ≤ p % 64 by omega)
    have e : p = 64 * (q : Int) + r := by omega
    rw [e, sqI_eq q r (by omega)]
    exact ssin_low q r w (by omega) (by omega)

set_option maxHeartbeats 400000 in
theorem ssin_half (p : Int) (w : World) (h0 : 0 ≤ p) (h1 : p < 2048) :
    Calls Tryd.prog 43 #[.int .i64 p] w fun e w' => e = .returned (.int .i64 (halfM p)) ∧ Grown w w' := by
  by_cases h : 1024 < p
  · rw [show halfM p = sqI (2048 - p) from if_pos h]
    have d1 : decide (2048 ≤ p) = false := by simp; omega
    go_enter Tryd.func43, Tryd.ntmps43
    go_wp2_with (first
      | (go_at_call 63; refine (mod_small _ _ (by omega) (by omega)).mono ?_; rintro e w' ⟨rfl, rfl⟩)
      | (go_at_call 43; refine (ssin_quarter (2048 - p) _ (by omega) (by omega)).mono ?_; rintro e w1 ⟨rfl, hg⟩))
    go_ret
    exact ⟨rfl, hg⟩
  · rw [show halfM p = sqI p from if_neg h]
    exact ssin_quarter p w h0 (by omega)

set_option maxHeartbeats 400000 in
theorem ssin_high (a : Int) (w : World) (h1 : -9223372036854775808 ≤ a) (h2 : a ≤ 9223372036854775807) (h : 2048 ≤ a % 4096) :
    Calls Tryd.prog 43 #[.int .i64 a] w fun e w' => e = .returned (.int .i64 (-halfM (a % 4096 - 2048))) ∧ Grown w w' := by
  have b1 : a % 4096 < 4096 := by omega
  have hb := halfM_bd (a % 4096 - 2048)
  go_enter Tryd.func43, Tryd.ntmps43
  go_wp2_with (first
    | (go_at_call 63; refine (mod_any _ _ h1 h2).mono ?_; rintro e w' ⟨rfl, rfl⟩)
    | (go_at_call 43; refine (ssin_half (a % 4096 - 2048) _ (by omega) (by omega)).mono ?_; rintro e w1 ⟨rfl, hg⟩))
  go_ret
  exact ⟨rfl, hg⟩

set_option maxHeartbeats 1000000 in
theorem ssin_lowhalf (a m : Int) (w : World) (h1 : -9223372036854775808 ≤ a) (h2 : a ≤ 9223372036854775807) (hm : a % 4096 = m) (h : m < 2048) (h0 : 0 ≤ m) :
    Calls Tryd.prog 43 #[.int .i64 a] w fun e w' => e = .returned (.int .i64 (halfM m)) ∧ Grown w w' := by
  have Hm : Hid (a % 4096 = m) := hm
  clear hm
  by_cases h3 : 1024 < m
  · rw [show halfM m = sqI (2048 - m) from if_pos h3]
    have d1 : decide (2048 ≤ m) = false := by simp; omega
    go_enter Tryd.func43, Tryd.ntmps43
    go_wp2_with (first
      | (go_at_call 63; refine (mod_any _ _ h1 h2).mono ?_; rintro e w' ⟨rfl, rfl⟩; rw [Hm.out])
      | (go_at_call 43; refine (ssin_quarter (2048 - m) _ (by omega) (by omega)).mono ?_; rintro e w1 ⟨rfl, hg⟩))
    go_ret
    exact ⟨rfl, hg⟩
  · rw [show halfM m = sqI m from if_neg h3]
    by_cases h4 : m = 1024
    · subst h4
      rw [sqI_1024]
      go_enter Tryd.func43, Tryd.ntmps43
      go_wp2_with (go_at_call 63; refine (mod_any _ _ h1 h2).mono ?_; rintro e w' ⟨rfl, rfl⟩; rw [Hm.out])
      go_ret
      exact ⟨rfl, Grown.refl _⟩
    · obtain ⟨q, hq⟩ := Int.eq_ofNat_of_zero_le (show 0 ≤ m / 64 by omega)
      obtain ⟨r, hr⟩ := Int.eq_ofNat_of_zero_le (show 0 ≤ m % 64 by omega)
      obtain rfl : m = 64 * (q : Int) + r := by omega
      have r64 : r < 64 := by omega
      have q15 : q ≤ 15 := by omega
      rw [sqI_eq q r r64]
      have d1 : decide (2048 ≤ 64 * (q : Int) + r) = false := by simp; omega
      have d2 : decide (1024 < 64 * (q : Int) + r) = false := by simp; omega
      have d3 : (64 * (q : Int) + r == 1024) = false := beq_eq_false_iff_ne.2 (by omega)
      clear hq hr h4 h3
      go_enter Tryd.func43, Tryd.ntmps43
      go_wp2_with (first
        | (go_at_call 63; refine (mod_any _ _ h1 h2).mono ?_; rintro e w' ⟨rfl, rfl⟩; rw [Hm.out])
        | (go_at_call 64; refine (table_any _).mono ?_; rintro e w1 ⟨rfl, hc, hg⟩; have c0 := hc q (by omega); have c1 := hc (q + 1) (by omega); have hc' : Hid _ := hc; clear hc))
      have e1 : (64 * (q : Int) + r) / 64 = q := by omega
      have e3 : IntKind.i64.wrap ((q : Int) + 1) = ((q + 1 : Nat) : Int) := by rw [IntWalk.i64_in _ (by omega)]; omega
      rw [e1]
      clear e1
      go_quiet (fail)
      go_wp2
      go_ret
      exact ⟨retSi (blend_val q r r64), hg⟩

theorem ssin_any (a : Int) (w : World) (h1 : -9223372036854775808 ≤ a) (h2 : a ≤ 9223372036854775807) :
    Calls Tryd.prog 43 #[.int .i64 a] w fun e w' => e = .returned (.int .i64 (sinM a)) ∧ Grown w w' := by
  by_cases h : 2048 ≤ a % 4096
  · rw [show sinM a = -halfM (a % 4096 - 2048) from if_pos h]
    exact ssin_high a w h1 h2 h
  · rw [show sinM a = halfM (a % 4096) from if_neg h]
    exact ssin_lowhalf a _ w h1 h2 rfl (by omega) (by omega)

theorem scos_any (a : Int) (w : World) (h1 : -9223372036854775808 ≤ a) (h2 : a ≤ 9223372036854775807) :
    Calls Tryd.prog 42 #[.int .i64 a] w fun e w' => e = .returned (.int .i64 (cosM a)) ∧ Grown w w' := by
  have b0 : 0 ≤ a % 4096 := by omega
  have b1 : a % 4096 < 4096 := by omega
  go_enter Tryd.func42, Tryd.ntmps42
  go_wp2_with (first
    | (go_at_call 63; refine (mod_any _ _ h1 h2).mono ?_; rintro e w' ⟨rfl, rfl⟩)
    | (go_at_call 43; refine (ssin_any (a % 4096 + 1024) _ (by omega) (by omega)).mono ?_; rintro e w1 ⟨rfl, hg⟩))
  go_ret
  exact ⟨rfl, hg⟩
end Go.Proofs.YtpeiblodefaajaaDoor

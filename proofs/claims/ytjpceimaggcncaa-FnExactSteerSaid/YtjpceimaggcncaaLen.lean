/-
  How many zeros lead a number of 64 bits: what bits.Len64 and bits.LeadingZeros64 answer.
-/
import Derived.Test.YtjpceimaggcncaaWide
namespace Go.Proofs.Ytjpceimaggcncaa
open Go.ChangeShapes Go.WideShapes Go.ChangeAt Go.RowKit
set_option maxRecDepth 100000

/-- The table of the eight lowest bits' lengths. -/
def tab8 : ByteArray := ⟨#[0, 1, 2, 2, 3, 3, 3, 3, 4, 4, 4, 4, 4, 4, 4, 4, 5, 5, 5, 5, 5, 5, 5, 5, 5, 5, 5, 5, 5, 5, 5, 5, 6, 6, 6, 6, 6, 6, 6, 6, 6, 6, 6, 6, 6, 6, 6, 6, 6, 6, 6, 6, 6, 6, 6, 6, 6, 6, 6, 6, 6, 6, 6, 6, 7, 7, 7, 7, 7, 7, 7, 7, 7, 7, 7, 7, 7, 7, 7, 7, 7, 7, 7, 7, 7, 7, 7, 7, 7, 7, 7, 7, 7, 7, 7, 7, 7, 7, 7, 7, 7, 7, 7, 7, 7, 7, 7, 7, 7, 7, 7, 7, 7, 7, 7, 7, 7, 7, 7, 7, 7, 7, 7, 7, 7, 7, 7, 7, 8, 8, 8, 8, 8, 8, 8, 8, 8, 8, 8, 8, 8, 8, 8, 8, 8, 8, 8, 8, 8, 8, 8, 8, 8, 8, 8, 8, 8, 8, 8, 8, 8, 8, 8, 8, 8, 8, 8, 8, 8, 8, 8, 8, 8, 8, 8, 8, 8, 8, 8, 8, 8, 8, 8, 8, 8, 8, 8, 8, 8, 8, 8, 8, 8, 8, 8, 8, 8, 8, 8, 8, 8, 8, 8, 8, 8, 8, 8, 8, 8, 8, 8, 8, 8, 8, 8, 8, 8, 8, 8, 8, 8, 8, 8, 8, 8, 8, 8, 8, 8, 8, 8, 8, 8, 8, 8, 8, 8, 8, 8, 8, 8, 8, 8, 8, 8, 8, 8, 8, 8, 8, 8, 8, 8, 8, 8, 8]⟩
theorem tab8_ok : ∀ i : Fin 256, (tab8.data[i.1]!).toNat ≤ 8 ∧ i.1 < 2 ^ (tab8.data[i.1]!).toNat ∧ (0 < i.1 → 1 ≤ (tab8.data[i.1]!).toNat ∧ 2 ^ ((tab8.data[i.1]!).toNat - 1) ≤ i.1) := by decide +kernel
theorem len_end (k : Nat) (a : ByteArray) (i x : Int) (hi : i.toNat < a.size) (ha : a = tab8) (hx : x / (2 ^ k : Nat) = i) (h0 : 0 < i) (h1 : i < 256) (hk : k ≤ 56) :
    ∃ t : Nat, Ending.returned (.int .i64 (wrap64 ((k : Int) + wrap64 (a[i.toNat].toNat : Int)))) = .returned (.int .i64 (t : Int)) ∧ 1 ≤ t ∧ t ≤ 64 ∧ 2 ^ (t - 1) ≤ x ∧ x < 2 ^ t := by
  subst ha
  obtain ⟨n, rfl⟩ : ∃ n : Nat, i = n := ⟨i.toNat, by omega⟩
  have hn : n < 256 := by omega
  have h := tab8_ok ⟨n, hn⟩
  generalize ht : tab8[(n : Int).toNat].toNat = t
  have e : (tab8.data[n]!).toNat = t := by
    rw [← ht, getElem!_pos tab8.data n (by show n < 256; exact hn)]
    rfl
  dsimp only at h
  rw [e] at h
  clear e ht
  obtain ⟨h8, hlt, hge⟩ := h
  obtain ⟨h9, hge⟩ := hge (by omega)
  refine ⟨k + t, by rw [IntWalk.wrap64_in (t : Int) (by omega), IntWalk.wrap64_in _ (by omega)]; rfl, by omega, by omega, ?_, ?_⟩
  · have e2 : (2 : Int) ^ (k + t - 1) = (2 ^ (t - 1) : Nat) * (2 ^ k : Nat) := by
      rw [show k + t - 1 = (t - 1) + k by omega, Int.pow_add]; norm_cast
    rw [e2]
    have hp : (0 : Int) < (2 ^ k : Nat) := by exact_mod_cast Nat.two_pow_pos k
    have : ((2 ^ (t - 1) : Nat) : Int) ≤ x / (2 ^ k : Nat) := by rw [hx]; exact_mod_cast hge
    exact (Int.le_ediv_iff_mul_le hp).1 this
  · have e2 : (2 : Int) ^ (k + t) = (2 ^ t : Nat) * (2 ^ k : Nat) := by
      rw [Nat.add_comm, Int.pow_add]; norm_cast
    rw [e2]
    have hp : (0 : Int) < (2 ^ k : Nat) := by exact_mod_cast Nat.two_pow_pos k
    have : x / (2 ^ k : Nat) < ((2 ^ t : Nat) : Int) := by rw [hx]; exact_mod_cast hlt
    exact (Int.ediv_lt_iff_lt_mul hp).1 this

theorem len_any (x : Int) (w : World) (h0 : 0 < x) (h1 : x < 18446744073709551616) :
    Calls Try.prog 111 #[.int .u64 x] w fun e w' => (∃ t : Nat, e = .returned (.int .i64 t) ∧ 1 ≤ t ∧ t ≤ 64 ∧ 2 ^ (t - 1) ≤ x ∧ x < 2 ^ t) ∧ w' = w := by
  go_enter Try.func111, Try.ntmps111
  go_wp2
  all_goals go_ret
  · exact ⟨len_end 56 _ (x / 4294967296 / 65536 / 256) x _ rfl (by omega) (by omega) (by omega) (by omega), rfl⟩
  · exact ⟨len_end 48 _ (x / 4294967296 / 65536) x _ rfl (by omega) (by omega) (by omega) (by omega), rfl⟩
  · exact ⟨len_end 40 _ (x / 4294967296 / 256) x _ rfl (by omega) (by omega) (by omega) (by omega), rfl⟩
  · exact ⟨len_end 32 _ (x / 4294967296) x _ rfl (by omega) (by omega) (by omega) (by omega), rfl⟩
  · exact ⟨len_end 24 _ (x / 65536 / 256) x _ rfl (by omega) (by omega) (by omega) (by omega), rfl⟩
  · exact ⟨len_end 16 _ (x / 65536) x _ rfl (by omega) (by omega) (by omega) (by omega), rfl⟩
  · exact ⟨len_end 8 _ (x / 256) x _ rfl (by omega) (by omega) (by omega) (by omega), rfl⟩
  · have := len_end 0 tab8 x x (by show x.toNat < 256; omega) rfl (by omega) (by omega) (by omega) (by omega)
    simp only [Int.ofNat_zero, Int.zero_add] at this
    exact ⟨this, rfl⟩

theorem lead_any (x : Int) (w : World) (h0 : 0 < x) (h1 : x < 18446744073709551616) :
    Calls Try.prog 108 #[.int .u64 x] w fun e w' => (∃ s : Nat, e = .returned (.int .i64 s) ∧ s < 64 ∧ 9223372036854775808 ≤ x * 2 ^ s ∧ x * 2 ^ s < 18446744073709551616) ∧ w' = w := by
  go_enter Try.func108, Try.ntmps108
  go_wp2_with (go_at_call 111; refine (len_any _ _ h0 h1).mono ?_; rintro e w' ⟨⟨t, rfl, g1, g2, g3, g4⟩, rfl⟩)
  go_ret
  refine ⟨⟨64 - t, retI (by omega), by omega, ?_, ?_⟩, rfl⟩
  · have e2 : (9223372036854775808 : Int) = 2 ^ (t - 1) * 2 ^ (64 - t) := by rw [← Int.pow_add, show t - 1 + (64 - t) = 63 by omega]; rfl
    rw [e2]
    exact Int.mul_le_mul_of_nonneg_right g3 (Int.le_of_lt (Int.pow_pos (by omega)))
  · have e2 : (18446744073709551616 : Int) = 2 ^ t * 2 ^ (64 - t) := by rw [← Int.pow_add, show t + (64 - t) = 64 by omega]; rfl
    rw [e2]
    exact Int.mul_lt_mul_of_pos_right g4 (Int.pow_pos (by omega))
end Go.Proofs.Ytjpceimaggcncaa

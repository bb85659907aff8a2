/-
  What GoodName answers, in the program and in its specification: whether the text is a name.
-/
import Derived.Test.YtmoaihhllfkmiaaRows
import Derived.WalkKit
import Derived.ProofKit
import Derived.OpenShut
import Derived.Handy
import Derived.Test.YtmoaihhllfkmiaaMem
namespace Go.Proofs.Ytmoaihhllfkmiaa
open Go.ChangeShapes Go.WideShapes Go.ChangeAt Go.RowKit

def digB (c : Int) : Bool := decide (48 ≤ c) && decide (c ≤ 57)
def letB (c : Int) : Bool := decide (97 ≤ c) && decide (c ≤ 122) || decide (65 ≤ c) && decide (c ≤ 90)
def letSB (c : Int) : Bool := letB c || c == 95
def okB (c : Int) : Bool := letB c || digB c || c == 95
def NameP (s : ByteArray) : Prop := 1 ≤ s.size ∧ s.size ≤ 20 ∧ (∀ h : 0 < s.size, digB (s[0].toNat : Int) = false) ∧ ∀ j (h : j < s.size), okB (s[j].toNat : Int) = true

def nameB (s : ByteArray) : Bool := decide (1 ≤ s.size ∧ s.size ≤ 20 ∧ (∀ h : 0 < s.size, digB (s[0].toNat : Int) = false) ∧ ∀ j (h : j < s.size), okB (s[j].toNat : Int) = true)
theorem nameB_iff (s : ByteArray) : nameB s = true ↔ NameP s := by simp [nameB, NameP]
theorem ret_bool {a b : Bool} (h : a = b) : Ending.returned (.bool a) = .returned (.bool b) := by rw [h]

theorem sdig (c : Int) (w : World) : Calls Try.prog 90 #[.int .u8 c] w fun e w' => e = .returned (.bool (digB c)) ∧ w' = w := by
  go_enter Try.func90, Try.ntmps90
  go_wp2
  all_goals
    go_ret
    exact ⟨ret_bool (by rw [Bool.eq_iff_iff]; simp [digB] <;> omega), rfl⟩

theorem idig (c : Int) (w : World) : Calls Try.prog 129 #[.int .u8 c] w fun e w' => e = .returned (.bool (digB c)) ∧ w' = w := by
  go_enter Try.func129, Try.ntmps129
  go_wp2
  all_goals
    go_ret
    exact ⟨ret_bool (by rw [Bool.eq_iff_iff]; simp [digB] <;> omega), rfl⟩

theorem ilet (c : Int) (w : World) : Calls Try.prog 130 #[.int .u8 c] w fun e w' => e = .returned (.bool (letB c)) ∧ w' = w := by
  go_enter Try.func130, Try.ntmps130
  go_wp2
  all_goals
    go_ret
    exact ⟨ret_bool (by rw [Bool.eq_iff_iff]; simp [letB] <;> omega), rfl⟩

theorem slet (c : Int) (w : World) : Calls Try.prog 91 #[.int .u8 c] w fun e w' => e = .returned (.bool (letSB c)) ∧ w' = w := by
  go_enter Try.func91, Try.ntmps91
  go_wp2
  all_goals
    go_ret
    exact ⟨ret_bool (by rw [Bool.eq_iff_iff]; simp [letSB, letB] <;> omega), rfl⟩

def NameEnd (s : ByteArray) (e : Ending) : Prop := ∃ b : Bool, e = .returned (.bool b) ∧ (b = true ↔ NameP s)
theorem end_no {s : ByteArray} {v : Value} (hv : v = .bool false) (h : ¬ NameP s) : NameEnd s (.returned v) := ⟨false, by rw [hv], by simp [h]⟩
theorem end_yes {s : ByteArray} {v : Value} (hv : v = .bool true) (h : NameP s) : NameEnd s (.returned v) := ⟨true, by rw [hv], by simp [h]⟩

theorem ok_let {c : Int} (h : letB c = true) : okB c = true := by simp [okB, h]
theorem ok_dig {c : Int} (h : digB c = true) : okB c = true := by simp [okB, h]
theorem ok_slet {c : Int} (h : letSB c = true) : okB c = true := by
  unfold letSB at h
  unfold okB
  cases h1 : letB c <;> cases h2 : digB c <;> simp_all
theorem ok_us {c : Int} (h : (c == 95) = true) : okB c = true := by simp only [okB, h, Bool.or_true]
theorem no_s {c : Int} (h : letSB c = false) (h' : digB c = false) : okB c = false := by
  unfold letSB at h
  unfold okB
  cases h1 : letB c <;> simp_all
theorem no_i {c : Int} (h : letB c = false) (h' : digB c = false) (h3 : (c == 95) = false) : okB c = false := by simp only [okB, h, h', h3, Bool.or_false]

theorem all_next {s : ByteArray} {k : Nat} (hall : ∀ j (h : j < s.size), j < k → okB (s[j].toNat : Int) = true) (hlt : k < s.size) (h : okB (s[k].toNat : Int) = true) :
    ∀ j (h : j < s.size), j < k + 1 → okB (s[j].toNat : Int) = true := fun j hj hj' => by
  by_cases e : j = k
  · subst e; exact h
  · exact hall j hj (by omega)

set_option maxHeartbeats 2000000 in
theorem sname_any (s : ByteArray) (w : World) (hs : s.size ≤ 1048576) :
    Calls Try.prog 51 #[.string s] w fun e w' => NameEnd s e ∧ w' = w := by
  by_cases z1 : s.size < 1
  · go_enter Try.func51, Try.ntmps51
    go_wp2_with fail
    go_ret
    exact ⟨end_no rfl (by intro h; have := h.1; omega), rfl⟩
  by_cases z2 : 20 < s.size
  · go_enter Try.func51, Try.ntmps51
    go_wp2_with fail
    go_ret
    exact ⟨end_no rfl (by intro h; have := h.2.1; omega), rfl⟩
  have y1 : 0 < s.size := by omega
  have y2 : s.size ≤ 20 := by omega
  have z1' : decide ((s.size : Int) < 1) = false := by simp; omega
  have z2' : decide (20 < (s.size : Int)) = false := by simp; omega
  clear z1 z2
  cases hd : digB (s[0].toNat : Int) with
  | true =>
    go_enter Try.func51, Try.ntmps51
    go_wp2_with (go_at_call 90; refine (sdig _ _).mono ?_; rintro e w' ⟨rfl, rfl⟩)
    go_ret
    exact ⟨end_no rfl (by intro h; have := h.2.2.1 y1; rw [hd] at this; cases this), rfl⟩
  | false =>
    go_enter Try.func51, Try.ntmps51
    go_wp2_with (go_at_call 90; refine (sdig _ _).mono ?_; rintro e w' ⟨rfl, rfl⟩)
    have Hd : Hid _ := hd
    clear hd z1' z2'
    go_loop [3] (fun i => ∃ k : Nat, k ≤ s.size ∧ i = .int .i64 k ∧ ∀ j (h : j < s.size), j < k → okB (s[j].toNat : Int) = true) (fun i => s.size - (intOf i).toNat)
    case atStart => exact ⟨0, Nat.zero_le _, rfl, fun j h h' => by omega⟩
    case round =>
      obtain ⟨k, hk, rfl, hall0⟩ := hrel
      have hall : Hid _ := hall0
      clear hall0
      by_cases hlt : k < s.size
      · cases hl : letSB (s[k].toNat : Int) with
        | true =>
          go_wp2_with (first
        | (go_at_call 91; refine (slet _ _).mono ?_; rintro e w' ⟨rfl, rfl⟩)
        | (go_at_call 90; refine (sdig _ _).mono ?_; rintro e w' ⟨rfl, rfl⟩))
          exact ⟨⟨k + 1, by omega, by go_num, all_next hall.out hlt (ok_slet hl)⟩, by simp [intOf]; omega⟩
        | false =>
          cases hg : digB (s[k].toNat : Int) with
          | true =>
            go_wp2_with (first
            | (go_at_call 91; refine (slet _ _).mono ?_; rintro e w' ⟨rfl, rfl⟩)
            | (go_at_call 90; refine (sdig _ _).mono ?_; rintro e w' ⟨rfl, rfl⟩))
            exact ⟨⟨k + 1, by omega, by go_num, all_next hall.out hlt (ok_dig hg)⟩, by simp [intOf]; omega⟩
          | false =>
            go_wp2_with (first
            | (go_at_call 91; refine (slet _ _).mono ?_; rintro e w' ⟨rfl, rfl⟩)
            | (go_at_call 90; refine (sdig _ _).mono ?_; rintro e w' ⟨rfl, rfl⟩))
            go_ret
            exact ⟨end_no rfl (by intro h; have := h.2.2.2 k hlt; rw [no_s hl hg] at this; cases this), rfl⟩
      · go_wp2_with fail
        go_ret
        exact ⟨end_yes rfl ⟨y1, y2, fun _ => Hd.out, fun j hj => hall.out j hj (by omega)⟩, rfl⟩

set_option maxHeartbeats 2000000 in
theorem iname_any (s : ByteArray) (w : World) (hs : s.size ≤ 1048576) :
    Calls Try.prog 110 #[.string s] w fun e w' => NameEnd s e ∧ w' = w := by
  by_cases z1 : s.size < 1
  · go_enter Try.func110, Try.ntmps110
    go_wp2_with fail
    go_ret
    exact ⟨end_no rfl (by intro h; have := h.1; omega), rfl⟩
  by_cases z2 : 20 < s.size
  · go_enter Try.func110, Try.ntmps110
    go_wp2_with fail
    go_ret
    exact ⟨end_no rfl (by intro h; have := h.2.1; omega), rfl⟩
  have y1 : 0 < s.size := by omega
  have y2 : s.size ≤ 20 := by omega
  have z1' : decide ((s.size : Int) < 1) = false := by simp; omega
  have z2' : decide (20 < (s.size : Int)) = false := by simp; omega
  clear z1 z2
  cases hd : digB (s[0].toNat : Int) with
  | true =>
    go_enter Try.func110, Try.ntmps110
    go_wp2_with (go_at_call 129; refine (idig _ _).mono ?_; rintro e w' ⟨rfl, rfl⟩)
    go_ret
    exact ⟨end_no rfl (by intro h; have := h.2.2.1 y1; rw [hd] at this; cases this), rfl⟩
  | false =>
    go_enter Try.func110, Try.ntmps110
    go_wp2_with (go_at_call 129; refine (idig _ _).mono ?_; rintro e w' ⟨rfl, rfl⟩)
    have Hd : Hid _ := hd
    clear hd z1' z2'
    go_loop [19] (fun i => ∃ k : Nat, k ≤ s.size ∧ i = .int .i64 k ∧ ∀ j (h : j < s.size), j < k → okB (s[j].toNat : Int) = true) (fun i => s.size - (intOf i).toNat)
    case atStart => exact ⟨0, Nat.zero_le _, rfl, fun j h h' => by omega⟩
    case round =>
      obtain ⟨k, hk, rfl, hall0⟩ := hrel
      have hall : Hid _ := hall0
      clear hall0
      by_cases hlt : k < s.size
      · cases hl : letB (s[k].toNat : Int) with
        | true =>
          go_wp2_with (first
        | (go_at_call 130; refine (ilet _ _).mono ?_; rintro e w' ⟨rfl, rfl⟩)
        | (go_at_call 129; refine (idig _ _).mono ?_; rintro e w' ⟨rfl, rfl⟩))
          exact ⟨⟨k + 1, by omega, by go_num, all_next hall.out hlt (ok_let hl)⟩, by simp [intOf]; omega⟩
        | false =>
          cases hg : digB (s[k].toNat : Int) with
          | true =>
            go_wp2_with (first
            | (go_at_call 130; refine (ilet _ _).mono ?_; rintro e w' ⟨rfl, rfl⟩)
            | (go_at_call 129; refine (idig _ _).mono ?_; rintro e w' ⟨rfl, rfl⟩))
            exact ⟨⟨k + 1, by omega, by go_num, all_next hall.out hlt (ok_dig hg)⟩, by simp [intOf]; omega⟩
          | false =>
            cases hu : ((s[k].toNat : Int) == 95) with
            | true =>
              go_wp2_with (first
            | (go_at_call 130; refine (ilet _ _).mono ?_; rintro e w' ⟨rfl, rfl⟩)
            | (go_at_call 129; refine (idig _ _).mono ?_; rintro e w' ⟨rfl, rfl⟩))
              exact ⟨⟨k + 1, by omega, by go_num, all_next hall.out hlt (ok_us hu)⟩, by simp [intOf]; omega⟩
            | false =>
              go_wp2_with (first
            | (go_at_call 130; refine (ilet _ _).mono ?_; rintro e w' ⟨rfl, rfl⟩)
            | (go_at_call 129; refine (idig _ _).mono ?_; rintro e w' ⟨rfl, rfl⟩))
              go_ret
              exact ⟨end_no rfl (by intro h; have := h.2.2.2 k hlt; rw [no_i hl hg hu] at this; cases this), rfl⟩
      · go_wp2_with fail
        go_ret
        exact ⟨end_yes rfl ⟨y1, y2, fun _ => Hd.out, fun j hj => hall.out j hj (by omega)⟩, rfl⟩
theorem sname (s : ByteArray) (w : World) (hs : s.size ≤ 1048576) : Calls Try.prog 51 #[.string s] w fun e w' => e = .returned (.bool (nameB s)) ∧ w' = w := by
  refine (sname_any s w hs).mono ?_
  rintro e w' ⟨⟨b, rfl, hb⟩, rfl⟩
  exact ⟨ret_bool (Bool.eq_iff_iff.2 (hb.trans (nameB_iff s).symm)), rfl⟩
theorem iname (s : ByteArray) (w : World) (hs : s.size ≤ 1048576) : Calls Try.prog 110 #[.string s] w fun e w' => e = .returned (.bool (nameB s)) ∧ w' = w := by
  refine (iname_any s w hs).mono ?_
  rintro e w' ⟨⟨b, rfl, hb⟩, rfl⟩
  exact ⟨ret_bool (Bool.eq_iff_iff.2 (hb.trans (nameB_iff s).symm)), rfl⟩
end Go.Proofs.Ytmoaihhllfkmiaa

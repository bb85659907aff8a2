/-
  slices.stableCmpFunc over at most forty places.
-/
import Derived.Test.YtaofilinejanjaaSymA18
namespace Go.Proofs.Ytaofilinejanjaa
open Go.ChangeShapes Go.WideShapes Go.ChangeAt Go.RowKit

set_option maxRecDepth 100000
set_option linter.unusedVariables false

/-- The places of a list: 0, 1, and so on. -/
def pl (n : Nat) : List Int := (List.range n).map fun i : Nat => (i : Int)
theorem pl_len (n : Nat) : (pl n).length = n := by simp [pl]
theorem pl_rise (n : Nat) : (pl n).Pairwise (· < ·) := by
  unfold pl
  rw [List.pairwise_map]
  exact List.pairwise_lt_range.imp fun h => by omega
theorem two_lists (r : Int → Int) (n : Nat) {Q1 Q2 : List Int} (h1 : Q1.Perm ((pl n).take 20)) (h2 : Q2.Perm ((pl n).drop 20)) : (∀ x ∈ Q1, ∀ y ∈ Q2, x < y) ∧ (Q1 ++ Q2).Perm (pl n) := by
  have h3 : ((pl n).take 20 ++ (pl n).drop 20).Pairwise (· < ·) := by rw [List.take_append_drop]; exact pl_rise n
  have h4 := (List.pairwise_append.1 h3).2.2
  refine ⟨fun x hx y hy => h4 x (h1.mem_iff.1 hx) y (h2.mem_iff.1 hy), ?_⟩
  have := h1.append h2
  rw [List.take_append_drop] at this
  exact this
set_option maxHeartbeats 32000000 in
theorem istb (w0 : World) (g n cap lo hi Bx : Nat) (r : Int → Int) (hn4 : n ≤ 40) (hcm : CmpC w0 g n Bx r) (W : World) (h : Sw w0 g n cap lo hi (pl n) W) :
    Calls Try.prog 55 #[.slice (some ⟨g, 0, none⟩) n cap, .int .i64 (n : Int), (.func (.func 53) #[] #[.pointer (some ⟨Bx, 0, none⟩)])] W fun e W' => e = .returned (.tuple #[]) ∧ ∃ D, D.Perm (pl n) ∧ Srt r D ∧ Sw w0 g n cap lo hi D W' := by
  have hn : n ≤ 1048576 := by omega
  by_cases hsm : n < 20
  · have d1 : decide ((20 : Int) ≤ (n : Int)) = false := decide_eq_false (by omega)
    have d1' : decide (20 ≤ n) = false := decide_eq_false (by omega)
    have d2 : decide ((20 : Int) < (n : Int)) = false := decide_eq_false (by omega)
    have d2' : decide (20 < n) = false := decide_eq_false (by omega)
    have hc := iins w0 g n cap lo hi Bx r [] (pl n) [] (pl_rise n) 0 n rfl (by rw [pl_len]; simp) hn hcm W (h.as (by simp))
    have HC : Hid _ := hc
    clear hc
    go_enter Try.func55, Try.ntmps55
    go_wp2_with fail
    go_loopw [7, 8] (fun av cv wr => av = .int .i64 0 ∧ cv = .int .i64 20 ∧ wr = W) (fun av cv _ => 0)
    case atStart => exact ⟨rfl, rfl, rfl⟩
    case round =>
      obtain ⟨rfl, rfl, hwr⟩ := hrel
      rw [hwr]
      clear hwr
      repeat (first | go_values | go_skip | go_guarded | go_step | go_upon)
      go_at_call 57
      refine Calls.mono HC.out ?_
      rintro e wD ⟨rfl, Q, hQ1, hQ2, hQ3⟩
      have HF : Hid (∃ D, D.Perm (pl n) ∧ Srt r D ∧ Sw w0 g n cap lo hi D wD) := show ∃ D, D.Perm (pl n) ∧ Srt r D ∧ Sw w0 g n cap lo hi D wD from ⟨Q, hQ1, hQ2, hQ3.as (by simp)⟩
      clear hQ1 hQ2 hQ3 HC
      dsimp only
      repeat (first | go_values | go_skip | go_guarded | go_step | go_upon)
      go_loopw [6, 7, 8] (fun bv av cv wr => bv = .int .i64 20 ∧ wr = wD) (fun bv av cv _ => 0)
      case atStart => exact ⟨rfl, rfl⟩
      case round =>
        obtain ⟨rfl, hwr⟩ := hrel
        rw [hwr]
        clear hwr
        repeat (first | go_values | go_skip | go_guarded | go_step | go_upon)
        go_end0
        exact ⟨rfl, HF.out⟩
  · have hTl : ((pl n).take 20).length = 20 := by rw [List.length_take, pl_len]; omega
    have hDl : ((pl n).drop 20).length = n - 20 := by rw [List.length_drop, pl_len]
    have hr3 : ((pl n).take 20 ++ (pl n).drop 20).Pairwise (· < ·) := by rw [List.take_append_drop]; exact pl_rise n
    have hr1 := (List.pairwise_append.1 hr3).1
    have hr2 := (List.pairwise_append.1 hr3).2.1
    have HTD : Hid (((pl n).take 20).length = 20 ∧ ((pl n).drop 20).length = n - 20 ∧ ((pl n).take 20).Pairwise (· < ·) ∧ ((pl n).drop 20).Pairwise (· < ·)) := show _ ∧ _ from ⟨hTl, hDl, hr1, hr2⟩
    have HTW : Hid (∀ Q1 Q2 : List Int, Q1.Perm ((pl n).take 20) → Q2.Perm ((pl n).drop 20) → (∀ x ∈ Q1, ∀ y ∈ Q2, x < y) ∧ (Q1 ++ Q2).Perm (pl n)) := fun Q1 Q2 h1 h2 => two_lists r n h1 h2
    have HH : Hid (Sw w0 g n cap lo hi ((pl n).take 20 ++ (pl n).drop 20) W) := by
      have e : Sw w0 g n cap lo hi ((pl n).take 20 ++ (pl n).drop 20) W := h.as (by rw [List.take_append_drop])
      exact e
    clear hTl hDl hr3 hr1 hr2 h
    generalize (pl n).take 20 = T1 at *
    generalize (pl n).drop 20 = T2 at *
    go_enter Try.func55, Try.ntmps55
    go_wp2_with fail
    go_loopw [7, 8] (fun av cv wr => (av = .int .i64 0 ∧ cv = .int .i64 20 ∧ wr = W) ∨ (av = .int .i64 20 ∧ cv = .int .i64 40 ∧ Hid (∃ Q1, Q1.Perm T1 ∧ Srt r Q1 ∧ Sw w0 g n cap lo hi (Q1 ++ T2) wr)) ∨ (av = .int .i64 40 ∧ cv = .int .i64 60 ∧ n = 40 ∧ Hid (∃ Q1 Q2, Q1.Perm T1 ∧ Srt r Q1 ∧ Q2.Perm T2 ∧ Srt r Q2 ∧ Sw w0 g n cap lo hi (Q1 ++ Q2) wr))) (fun av cv _ => 100 - (intOf cv).toNat)
    case atStart => exact .inl ⟨rfl, rfl, rfl⟩
    case round =>
      rcases hrel with ⟨rfl, rfl, hwr⟩ | ⟨rfl, rfl, HD⟩ | ⟨rfl, rfl, h40, HD⟩
      · rw [hwr]
        clear hwr
        have d1 : decide ((20 : Int) ≤ (n : Int)) = true := decide_eq_true (by omega)
        have d1' : decide (20 ≤ n) = true := decide_eq_true (by omega)
        have hc := iins w0 g n cap lo hi Bx r [] T1 T2 HTD.out.2.2.1 0 20 rfl (by have := HTD.out; simp; omega) hn hcm W (HH.out.as (by simp))
        have HC : Hid _ := hc
        clear hc
        repeat (first | go_values | go_skip | go_guarded | go_step | go_upon)
        go_at_call 57
        refine Calls.mono HC.out ?_
        rintro e wD ⟨rfl, Q, hQ1, hQ2, hQ3⟩
        have HD : Hid (∃ Q1, Q1.Perm T1 ∧ Srt r Q1 ∧ Sw w0 g n cap lo hi (Q1 ++ T2) wD) := show ∃ Q1, Q1.Perm T1 ∧ Srt r Q1 ∧ Sw w0 g n cap lo hi (Q1 ++ T2) wD from ⟨Q, hQ1, hQ2, hQ3.as (by simp)⟩
        clear hQ1 hQ2 hQ3 HC
        dsimp only
        repeat (first | go_values | go_skip | go_guarded | go_step | go_upon)
        exact ⟨.inr (.inl ⟨rfl, rfl, HD⟩), by simp [intOf]⟩
      · obtain ⟨Q1, hQ1, hQ2, hQ3⟩ := HD.out
        by_cases h40 : n = 40
        · have d1 : decide ((40 : Int) ≤ (n : Int)) = true := decide_eq_true (by omega)
          have d1' : decide (40 ≤ n) = true := decide_eq_true (by omega)
          have hc := iins w0 g n cap lo hi Bx r Q1 T2 [] HTD.out.2.2.2 20 40 (by have := HTD.out; have := hQ1.length_eq; omega) (by have := HTD.out; have := hQ1.length_eq; omega) hn hcm wr (hQ3.as (by simp))
          have HC : Hid _ := hc
          have HQ1 : Hid (Q1.Perm T1 ∧ Srt r Q1) := show _ ∧ _ from ⟨hQ1, hQ2⟩
          have H40 : Hid (n = 40) := h40
          clear hc hQ1 hQ2 hQ3 HD h40
          repeat (first | go_values | go_skip | go_guarded | go_step | go_upon)
          go_at_call 57
          refine Calls.mono HC.out ?_
          rintro e wD ⟨rfl, Q2, hq1, hq2, hq3⟩
          have HD : Hid (∃ Q1 Q2, Q1.Perm T1 ∧ Srt r Q1 ∧ Q2.Perm T2 ∧ Srt r Q2 ∧ Sw w0 g n cap lo hi (Q1 ++ Q2) wD) := show ∃ Q1 Q2, Q1.Perm T1 ∧ Srt r Q1 ∧ Q2.Perm T2 ∧ Srt r Q2 ∧ Sw w0 g n cap lo hi (Q1 ++ Q2) wD from ⟨Q1, Q2, HQ1.out.1, HQ1.out.2, hq1, hq2, hq3.as (by simp)⟩
          clear hq1 hq2 hq3 HC
          dsimp only
          repeat (first | go_values | go_skip | go_guarded | go_step | go_upon)
          exact ⟨.inr (.inr ⟨rfl, rfl, H40.out, HD⟩), by simp [intOf]⟩
        · have d1 : decide ((40 : Int) ≤ (n : Int)) = false := decide_eq_false (by omega)
          have d1' : decide (40 ≤ n) = false := decide_eq_false (by omega)
          have hc := iins w0 g n cap lo hi Bx r Q1 T2 [] HTD.out.2.2.2 20 n (by have := HTD.out; have := hQ1.length_eq; omega) (by have := HTD.out; have := hQ1.length_eq; omega) hn hcm wr (hQ3.as (by simp))
          have HC : Hid _ := hc
          have HQ1 : Hid (Q1.Perm T1 ∧ Srt r Q1) := show _ ∧ _ from ⟨hQ1, hQ2⟩
          clear hc hQ1 hQ2 hQ3 HD
          repeat (first | go_values | go_skip | go_guarded | go_step | go_upon)
          go_at_call 57
          refine Calls.mono HC.out ?_
          rintro e wq ⟨rfl, Q2, hq1, hq2, hq3⟩
          have HSQ : Hid (Sw w0 g n cap lo hi (Q1 ++ Q2) wq) := hq3.as (by simp)
          have HQ : Hid (Srt r Q1 ∧ Srt r Q2 ∧ (∀ x ∈ Q1, ∀ y ∈ Q2, x < y) ∧ (Q1 ++ Q2).Perm (pl n)) := show _ ∧ _ ∧ _ ∧ _ from ⟨HQ1.out.2, hq2, (HTW.out Q1 Q2 HQ1.out.1 hq1).1, (HTW.out Q1 Q2 HQ1.out.1 hq1).2⟩
          have HL : Hid (Q1.length = 20 ∧ Q2.length = n - 20) := show _ ∧ _ from ⟨by have := HTD.out; have := HQ1.out.1.length_eq; omega, by have := HTD.out; have := hq1.length_eq; omega⟩
          clear hq1 hq2 hq3 HC HQ1 d1 d1' h40
          dsimp only
          repeat (first | go_values | go_skip | go_guarded | go_step | go_upon)
          go_loopw [6, 7, 8] (fun bv av cv wr => ∃ bs : Nat, bv = .int .i64 (bs : Int) ∧ Hid ((bs = 20 ∧ Sw w0 g n cap lo hi (Q1 ++ Q2) wr) ∨ (bs = 40 ∧ ∃ D, D.Perm (pl n) ∧ Srt r D ∧ Sw w0 g n cap lo hi D wr))) (fun bv av cv _ => 60 - (intOf bv).toNat)
          case atStart => exact ⟨20, rfl, (show (20 = 20 ∧ Sw w0 g n cap lo hi (Q1 ++ Q2) wq) ∨ (20 = 40 ∧ ∃ D, D.Perm (pl n) ∧ Srt r D ∧ Sw w0 g n cap lo hi D wq) from .inl ⟨rfl, HSQ.out⟩)⟩
          case round =>
            obtain ⟨bs, rfl, HB⟩ := hrel
            rcases HB.out with ⟨hbs, hs⟩ | ⟨hbs, hs⟩
            · subst hbs
              by_cases h20 : 20 < n
              · have d5 : decide ((20 : Int) < (n : Int)) = true := decide_eq_true (by omega)
                have d5' : decide (20 < n) = true := decide_eq_true h20
                have hc := isym w0 g n cap lo hi Bx r hn hcm _ [] Q1 Q2 [] 0 20 n rfl (ne_of_len (by have := HL.out; omega)) (ne_of_len (by have := HL.out; omega)) HQ.out.1 HQ.out.2.1 HQ.out.2.2.1 rfl (by have := HL.out; simp; omega) (by have := HL.out; simp; omega) wr (hs.as (by simp))
                have HC : Hid _ := hc
                have HS : Hid (Sw w0 g n cap lo hi (Q1 ++ Q2) wr) := hs
                clear hc hs HB
                repeat (first | go_values | go_skip | go_guarded | go_step | go_upon)
                rename World => wz
                go_loopw [7, 8] (fun av cv wr => (av = .int .i64 0 ∧ cv = .int .i64 40 ∧ wr = wz) ∨ (av = .int .i64 40 ∧ cv = .int .i64 80 ∧ Hid (∃ D, D.Perm (pl n) ∧ Srt r D ∧ Sw w0 g n cap lo hi D wr))) (fun av cv _ => 100 - (intOf cv).toNat)
                case atStart => exact .inl ⟨rfl, rfl, rfl⟩
                case round =>
                  rcases hrel with ⟨rfl, rfl, hwr⟩ | ⟨rfl, rfl, HD⟩
                  · rw [hwr]
                    clear hwr
                    by_cases h40 : n = 40
                    · have d6 : decide ((40 : Int) ≤ (n : Int)) = true := decide_eq_true (by omega)
                      have d6' : decide (40 ≤ n) = true := decide_eq_true (by omega)
                      subst h40
                      repeat (first | go_values | go_skip | go_guarded | go_step | go_upon)
                      go_at_call 58
                      refine Calls.mono HC.out ?_
                      rintro e wD ⟨rfl, C, hC1, hC2, hC3⟩
                      have HD : Hid (∃ D, D.Perm (pl 40) ∧ Srt r D ∧ Sw w0 g 40 cap lo hi D wD) := show ∃ D, D.Perm (pl 40) ∧ Srt r D ∧ Sw w0 g 40 cap lo hi D wD from ⟨C, hC1.trans HQ.out.2.2.2, hC2, hC3.as (by simp)⟩
                      clear hC1 hC2 hC3 HC
                      dsimp only
                      repeat (first | go_values | go_skip | go_guarded | go_step | go_upon)
                      exact ⟨.inr ⟨rfl, rfl, HD⟩, by simp [intOf]⟩
                    · have d6 : decide ((40 : Int) ≤ (n : Int)) = false := decide_eq_false (by omega)
                      have d6' : decide (40 ≤ n) = false := decide_eq_false (by omega)
                      clear h40
                      repeat (first | go_values | go_skip | go_guarded | go_step | go_upon)
                      go_at_call 58
                      refine Calls.mono HC.out ?_
                      rintro e wD ⟨rfl, C, hC1, hC2, hC3⟩
                      have HD : Hid ((40 = 20 ∧ Sw w0 g n cap lo hi (Q1 ++ Q2) wD) ∨ (40 = 40 ∧ ∃ D, D.Perm (pl n) ∧ Srt r D ∧ Sw w0 g n cap lo hi D wD)) := show (40 = 20 ∧ Sw w0 g n cap lo hi (Q1 ++ Q2) wD) ∨ (40 = 40 ∧ ∃ D, D.Perm (pl n) ∧ Srt r D ∧ Sw w0 g n cap lo hi D wD) from .inr ⟨rfl, C, hC1.trans HQ.out.2.2.2, hC2, hC3.as (by simp)⟩
                      clear hC1 hC2 hC3 HC
                      dsimp only
                      repeat (first | go_values | go_skip | go_guarded | go_step | go_upon)
                      exact ⟨⟨40, rfl, HD⟩, by simp [intOf]⟩
                  · have d6 : decide ((80 : Int) ≤ (n : Int)) = false := decide_eq_false (by omega)
                    have d6' : decide (80 ≤ n) = false := decide_eq_false (by omega)
                    have d7 : decide ((60 : Int) < (n : Int)) = false := decide_eq_false (by omega)
                    have d7' : decide (60 < n) = false := decide_eq_false (by omega)
                    have HD : Hid ((40 = 20 ∧ Sw w0 g n cap lo hi (Q1 ++ Q2) wr) ∨ (40 = 40 ∧ ∃ D, D.Perm (pl n) ∧ Srt r D ∧ Sw w0 g n cap lo hi D wr)) := show (40 = 20 ∧ Sw w0 g n cap lo hi (Q1 ++ Q2) wr) ∨ (40 = 40 ∧ ∃ D, D.Perm (pl n) ∧ Srt r D ∧ Sw w0 g n cap lo hi D wr) from .inr ⟨rfl, HD.out⟩
                    repeat (first | go_values | go_skip | go_guarded | go_step | go_upon)
                    exact ⟨⟨40, rfl, HD⟩, by simp [intOf]⟩
              · have d5 : decide ((20 : Int) < (n : Int)) = false := decide_eq_false (by omega)
                have d5' : decide (20 < n) = false := decide_eq_false h20
                have HF : Hid (∃ D, D.Perm (pl n) ∧ Srt r D ∧ Sw w0 g n cap lo hi D wr) := show ∃ D, D.Perm (pl n) ∧ Srt r D ∧ Sw w0 g n cap lo hi D wr from ⟨Q1 ++ Q2, HQ.out.2.2.2, by rw [nil_of_len (l := Q2) (by have := HL.out; omega), List.append_nil]; exact HQ.out.1, hs⟩
                clear hs HB
                repeat (first | go_values | go_skip | go_guarded | go_step | go_upon)
                go_end0
                exact ⟨rfl, HF.out⟩
            · subst hbs
              have d5 : decide ((40 : Int) < (n : Int)) = false := decide_eq_false (by omega)
              have d5' : decide (40 < n) = false := decide_eq_false (by omega)
              have HF : Hid (∃ D, D.Perm (pl n) ∧ Srt r D ∧ Sw w0 g n cap lo hi D wr) := hs
              clear hs HB
              repeat (first | go_values | go_skip | go_guarded | go_step | go_upon)
              go_end0
              exact ⟨rfl, HF.out⟩
      · obtain ⟨Q1, Q2, hQ1, hQ2, hq1, hq2, hQ3⟩ := HD.out
        have hll : Q1.length + Q2.length = 40 := by have := HTD.out; have := hQ1.length_eq; have := hq1.length_eq; omega
        have d1 : decide ((60 : Int) ≤ (n : Int)) = false := decide_eq_false (by omega)
        have d1' : decide (60 ≤ n) = false := decide_eq_false (by omega)
        have hc := iins w0 g n cap lo hi Bx r (Q1 ++ Q2) [] [] List.Pairwise.nil 40 n (by simp; omega) (by simp; omega) hn hcm wr (hQ3.as (by simp))
        have HC : Hid _ := hc
        have HQ1 : Hid (Q1.Perm T1 ∧ Srt r Q1 ∧ Q2.Perm T2 ∧ Srt r Q2) := show _ ∧ _ ∧ _ ∧ _ from ⟨hQ1, hQ2, hq1, hq2⟩
        clear hc hQ1 hQ2 hQ3 hq1 hq2 HD hll h40
        repeat (first | go_values | go_skip | go_guarded | go_step | go_upon)
        go_at_call 57
        refine Calls.mono HC.out ?_
        rintro e wq ⟨rfl, Q9, hq1, hq2, hq3⟩
        have hq9 : Q9 = [] := List.Perm.eq_nil hq1
        subst hq9
        have HSQ : Hid (Sw w0 g n cap lo hi (Q1 ++ Q2) wq) := hq3.as (by simp)
        have HQ : Hid (Srt r Q1 ∧ Srt r Q2 ∧ (∀ x ∈ Q1, ∀ y ∈ Q2, x < y) ∧ (Q1 ++ Q2).Perm (pl n)) := show _ ∧ _ ∧ _ ∧ _ from ⟨HQ1.out.2.1, HQ1.out.2.2.2, (HTW.out Q1 Q2 HQ1.out.1 HQ1.out.2.2.1).1, (HTW.out Q1 Q2 HQ1.out.1 HQ1.out.2.2.1).2⟩
        have HL : Hid (Q1.length = 20 ∧ Q2.length = n - 20) := show _ ∧ _ from ⟨by have := HTD.out; have := HQ1.out.1.length_eq; omega, by have := HTD.out; have := HQ1.out.2.2.1.length_eq; omega⟩
        clear hq1 hq2 hq3 HC HQ1 d1 d1'
        dsimp only
        repeat (first | go_values | go_skip | go_guarded | go_step | go_upon)
        go_loopw [6, 7, 8] (fun bv av cv wr => ∃ bs : Nat, bv = .int .i64 (bs : Int) ∧ Hid ((bs = 20 ∧ Sw w0 g n cap lo hi (Q1 ++ Q2) wr) ∨ (bs = 40 ∧ ∃ D, D.Perm (pl n) ∧ Srt r D ∧ Sw w0 g n cap lo hi D wr))) (fun bv av cv _ => 60 - (intOf bv).toNat)
        case atStart => exact ⟨20, rfl, (show (20 = 20 ∧ Sw w0 g n cap lo hi (Q1 ++ Q2) wq) ∨ (20 = 40 ∧ ∃ D, D.Perm (pl n) ∧ Srt r D ∧ Sw w0 g n cap lo hi D wq) from .inl ⟨rfl, HSQ.out⟩)⟩
        case round =>
          obtain ⟨bs, rfl, HB⟩ := hrel
          rcases HB.out with ⟨hbs, hs⟩ | ⟨hbs, hs⟩
          · subst hbs
            by_cases h20 : 20 < n
            · have d5 : decide ((20 : Int) < (n : Int)) = true := decide_eq_true (by omega)
              have d5' : decide (20 < n) = true := decide_eq_true h20
              have hc := isym w0 g n cap lo hi Bx r hn hcm _ [] Q1 Q2 [] 0 20 n rfl (ne_of_len (by have := HL.out; omega)) (ne_of_len (by have := HL.out; omega)) HQ.out.1 HQ.out.2.1 HQ.out.2.2.1 rfl (by have := HL.out; simp; omega) (by have := HL.out; simp; omega) wr (hs.as (by simp))
              have HC : Hid _ := hc
              have HS : Hid (Sw w0 g n cap lo hi (Q1 ++ Q2) wr) := hs
              clear hc hs HB
              repeat (first | go_values | go_skip | go_guarded | go_step | go_upon)
              rename World => wz
              go_loopw [7, 8] (fun av cv wr => (av = .int .i64 0 ∧ cv = .int .i64 40 ∧ wr = wz) ∨ (av = .int .i64 40 ∧ cv = .int .i64 80 ∧ Hid (∃ D, D.Perm (pl n) ∧ Srt r D ∧ Sw w0 g n cap lo hi D wr))) (fun av cv _ => 100 - (intOf cv).toNat)
              case atStart => exact .inl ⟨rfl, rfl, rfl⟩
              case round =>
                rcases hrel with ⟨rfl, rfl, hwr⟩ | ⟨rfl, rfl, HD⟩
                · rw [hwr]
                  clear hwr
                  by_cases h40 : n = 40
                  · have d6 : decide ((40 : Int) ≤ (n : Int)) = true := decide_eq_true (by omega)
                    have d6' : decide (40 ≤ n) = true := decide_eq_true (by omega)
                    subst h40
                    repeat (first | go_values | go_skip | go_guarded | go_step | go_upon)
                    go_at_call 58
                    refine Calls.mono HC.out ?_
                    rintro e wD ⟨rfl, C, hC1, hC2, hC3⟩
                    have HD : Hid (∃ D, D.Perm (pl 40) ∧ Srt r D ∧ Sw w0 g 40 cap lo hi D wD) := show ∃ D, D.Perm (pl 40) ∧ Srt r D ∧ Sw w0 g 40 cap lo hi D wD from ⟨C, hC1.trans HQ.out.2.2.2, hC2, hC3.as (by simp)⟩
                    clear hC1 hC2 hC3 HC
                    dsimp only
                    repeat (first | go_values | go_skip | go_guarded | go_step | go_upon)
                    exact ⟨.inr ⟨rfl, rfl, HD⟩, by simp [intOf]⟩
                  · have d6 : decide ((40 : Int) ≤ (n : Int)) = false := decide_eq_false (by omega)
                    have d6' : decide (40 ≤ n) = false := decide_eq_false (by omega)
                    clear h40
                    repeat (first | go_values | go_skip | go_guarded | go_step | go_upon)
                    go_at_call 58
                    refine Calls.mono HC.out ?_
                    rintro e wD ⟨rfl, C, hC1, hC2, hC3⟩
                    have HD : Hid ((40 = 20 ∧ Sw w0 g n cap lo hi (Q1 ++ Q2) wD) ∨ (40 = 40 ∧ ∃ D, D.Perm (pl n) ∧ Srt r D ∧ Sw w0 g n cap lo hi D wD)) := show (40 = 20 ∧ Sw w0 g n cap lo hi (Q1 ++ Q2) wD) ∨ (40 = 40 ∧ ∃ D, D.Perm (pl n) ∧ Srt r D ∧ Sw w0 g n cap lo hi D wD) from .inr ⟨rfl, C, hC1.trans HQ.out.2.2.2, hC2, hC3.as (by simp)⟩
                    clear hC1 hC2 hC3 HC
                    dsimp only
                    repeat (first | go_values | go_skip | go_guarded | go_step | go_upon)
                    exact ⟨⟨40, rfl, HD⟩, by simp [intOf]⟩
                · have d6 : decide ((80 : Int) ≤ (n : Int)) = false := decide_eq_false (by omega)
                  have d6' : decide (80 ≤ n) = false := decide_eq_false (by omega)
                  have d7 : decide ((60 : Int) < (n : Int)) = false := decide_eq_false (by omega)
                  have d7' : decide (60 < n) = false := decide_eq_false (by omega)
                  have HD : Hid ((40 = 20 ∧ Sw w0 g n cap lo hi (Q1 ++ Q2) wr) ∨ (40 = 40 ∧ ∃ D, D.Perm (pl n) ∧ Srt r D ∧ Sw w0 g n cap lo hi D wr)) := show (40 = 20 ∧ Sw w0 g n cap lo hi (Q1 ++ Q2) wr) ∨ (40 = 40 ∧ ∃ D, D.Perm (pl n) ∧ Srt r D ∧ Sw w0 g n cap lo hi D wr) from .inr ⟨rfl, HD.out⟩
                  repeat (first | go_values | go_skip | go_guarded | go_step | go_upon)
                  exact ⟨⟨40, rfl, HD⟩, by simp [intOf]⟩
            · have d5 : decide ((20 : Int) < (n : Int)) = false := decide_eq_false (by omega)
              have d5' : decide (20 < n) = false := decide_eq_false h20
              have HF : Hid (∃ D, D.Perm (pl n) ∧ Srt r D ∧ Sw w0 g n cap lo hi D wr) := show ∃ D, D.Perm (pl n) ∧ Srt r D ∧ Sw w0 g n cap lo hi D wr from ⟨Q1 ++ Q2, HQ.out.2.2.2, by rw [nil_of_len (l := Q2) (by have := HL.out; omega), List.append_nil]; exact HQ.out.1, hs⟩
              clear hs HB
              repeat (first | go_values | go_skip | go_guarded | go_step | go_upon)
              go_end0
              exact ⟨rfl, HF.out⟩
          · subst hbs
            have d5 : decide ((40 : Int) < (n : Int)) = false := decide_eq_false (by omega)
            have d5' : decide (40 < n) = false := decide_eq_false (by omega)
            have HF : Hid (∃ D, D.Perm (pl n) ∧ Srt r D ∧ Sw w0 g n cap lo hi D wr) := hs
            clear hs HB
            repeat (first | go_values | go_skip | go_guarded | go_step | go_upon)
            go_end0
            exact ⟨rfl, HF.out⟩

end Go.Proofs.Ytaofilinejanjaa

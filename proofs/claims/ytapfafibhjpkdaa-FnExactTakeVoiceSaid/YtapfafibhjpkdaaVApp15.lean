/-
  A voice put behind others: what a row of voices is then. Free of the program.
-/
import Derived.Test.YtapfafibhjpkdaaVoices
import Derived.Test.YtapfafibhjpkdaaClone15
namespace Go.Proofs.Ytapfafibhjpkdaa
open Go.ChangeShapes Go.WideShapes Go.ChangeAt Go.RowKit

set_option maxRecDepth 100000
set_option linter.unusedVariables false

theorem app_row {W w2 : World} {lo hi : Nat} {e : TypeId} {size : Nat} {v v' : Value} {n m : Nat} {xs ys : List Value} (ho : RowO W lo hi e size v n xs) (hown : w2.ownsRow lo e size v' m ys) (hg : W.grownBy w2 v.ownBlock) :
    RowO w2 lo w2.heap.size e size v' m ys ∧ (∀ u, Kept u W → u.heap.size ≤ lo → Kept u w2) := by
  have hlo : ∀ g, v.ownBlock = some g → lo ≤ g := fun g h => (own_lt ho.1 h).1
  refine ⟨RowO.top hown, fun u hk hu => hk.grown hg (fun k h => .inl ?_)⟩
  have := hlo k h
  omega
theorem grown_but {W w2 : World} {v : Value} (hg : W.grownBy w2 v.ownBlock) : But (blo v) (bhi v) W w2 := by
  refine (But.refl _ _ W).grown hg (fun k hk => .inr ?_)
  unfold blo bhi
  rw [hk]
  simp
/-- A voice put behind others. -/
theorem app_voice {W w2 : World} {lo : Nat} {v v' : Value} {n : Nat} {ps : List VoiceE} {t : VoiceE} (ho : VoiceO W lo W.heap.size v ps) (hn : ps.length = n) (ht : NumO W lo W.heap.size t.1.1 t.1.2) (hap : ∀ (i : Nat) (p : VoiceE), ps[i]? = some p → Ap p.1.1 t.1.1)
    (hown : w2.ownsRow lo 27 6 v' (n + 1) (ps.flatMap voiceC ++ voiceC t)) (hg : W.grownBy w2 v.ownBlock) :
    VoiceO w2 lo w2.heap.size v' (ps ++ [t]) ∧ (∀ u, Kept u W → u.heap.size ≤ lo → Kept u w2) := by
  subst hn
  have h := app_row ho.row hown hg
  have hsz := hg.size
  refine ⟨⟨?_, fun i p hp => ?_, fun i j p p' hij hp hp' => ?_⟩, h.2⟩
  · rw [List.length_append, List.flatMap_append]
    simpa using h.1
  · rcases Nat.lt_or_ge i ps.length with hi | hi
    · rw [List.getElem?_append_left hi] at hp
      exact (RowO.apart (ho.inn i p hp) (grown_but hg) (ap_types ho.row (ho.inn i p hp) (by decide)).symm).mono (Nat.le_refl _) hsz
    · rw [List.getElem?_append_right hi] at hp
      have e : i - ps.length = 0 := by
        have := (List.getElem?_eq_some_iff.1 hp).1
        simp at this
        exact this
      rw [e] at hp
      simp at hp
      subst hp
      exact (RowO.apart ht (grown_but hg) (ap_types ho.row ht (by decide)).symm).mono (Nat.le_refl _) hsz
  · have key : ∀ (i : Nat) (p : VoiceE), (ps ++ [t])[i]? = some p → (i < ps.length ∧ ps[i]? = some p) ∨ (i = ps.length ∧ p = t) := fun i p hp => by
      rcases Nat.lt_or_ge i ps.length with hi | hi
      · rw [List.getElem?_append_left hi] at hp
        exact .inl ⟨hi, hp⟩
      · rw [List.getElem?_append_right hi] at hp
        have e : i - ps.length = 0 := by
          have := (List.getElem?_eq_some_iff.1 hp).1
          simp at this
          exact this
        rw [e] at hp
        simp at hp
        exact .inr ⟨by omega, hp.symm⟩
    rcases key i p hp with ⟨h1, h2⟩ | ⟨h1, rfl⟩
    · rcases key j p' hp' with ⟨h3, h4⟩ | ⟨h3, rfl⟩
      · exact ho.apart i j p p' hij h2 h4
      · exact hap i p h2
    · rcases key j p' hp' with ⟨h3, h4⟩ | ⟨h3, rfl⟩
      · exact (hap j p' h4).symm
      · exact absurd (h1.trans h3.symm) hij
theorem news_voice {W : World} {b : Nat} {t : VoiceE} (h : Loc W b (voiceC t)) : ∀ j u, (voiceC t)[j]? = some u → W.cell? ((⟨b, 0, none⟩ : Addr).add j) = some u := fun j u hu => by
  rw [Go.WideShapes.add_plain, Nat.zero_add]
  exact h.cell j hu
theorem one_voice (ao : Option Addr) (n c : Nat) (l : List NumD) (a : Int) (lp : Bool) (lf rt rk : Int) : ∀ u ∈ voiceC ((.slice ao n c, l), a, lp, lf, rt, rk), u.oneCell' = true := fun u hu => by
  simp [voiceC] at hu
  rcases hu with rfl | rfl | rfl | rfl | rfl | rfl <;> rfl
theorem voice_nil (w : World) (lo hi : Nat) : VoiceO w lo hi (.slice none 0 0) [] := ⟨⟨World.ownsRow_nil _ _ _ _, fun g hg => by simp [Value.ownBlock] at hg⟩, fun i p hp => by simp at hp, fun i j p p' _ hp => by simp at hp⟩
theorem infoV : (Try.prog.info? 27).map (fun i => (i.zero, i.size, i.bytes)) = some (some (.agg #[.slice none 0 0, .int .i64 0, .bool false, .int .i64 0, .int .i64 0, .int .i64 0]), 6, 64) := by kernel_rfl

end Go.Proofs.Ytapfafibhjpkdaa

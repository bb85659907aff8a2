/-
  Voices as plain data, and how lists of them lie in memory.
-/
import Derived.Test.YtapfafibhjpkdaaRows
import Derived.Test.YtapfafibhjpkdaaNumM
namespace Go.Proofs.Ytapfafibhjpkdaa
open Go.ChangeShapes Go.WideShapes Go.ChangeAt Go.RowKit

abbrev VoiceE := (Value × List NumD) × Int × Bool × Int × Int × Int
abbrev VoiceD := List NumD × Int × Bool × Int × Int × Int
def voiceC (p : VoiceE) : List Value := [p.1.1, .int .i64 p.2.1, .bool p.2.2.1, .int .i64 p.2.2.2.1, .int .i64 p.2.2.2.2.1, .int .i64 p.2.2.2.2.2]
theorem voiceC_len (p : VoiceE) : (voiceC p).length = 6 := rfl
def stripVoice (p : VoiceE) : VoiceD := (p.1.2, p.2.1, p.2.2.1, p.2.2.2.1, p.2.2.2.2.1, p.2.2.2.2.2)
def voice0 : VoiceE := ((.slice none 0 0, []), 0, false, 0, 0, 0)
def VoiceAt (w : World) (v : Value) (ps : List VoiceE) : Prop := RowAt w v ps.length (ps.flatMap voiceC) ∧ ∀ p ∈ ps, NumAt w p.1.1 p.1.2
theorem VoiceAt.kept {w w' : World} {v : Value} {ps : List VoiceE} (h : VoiceAt w v ps) (k : Kept w w') : VoiceAt w' v ps := ⟨RowAt.kept h.1 k, fun p hp => (h.2 p hp).kept k⟩
theorem voice_get {w : World} {v : Value} {ps : List VoiceE} (h : VoiceAt w v ps) {i : Nat} {p : VoiceE} (hp : ps[i]? = some p) :
    ∃ b o cap, v = .slice (some ⟨b, o, none⟩) ps.length cap ∧ w.cell? ⟨b, o + i * 6, none⟩ = some (p.1.1) ∧ w.cell? ⟨b, o + i * 6 + 1, none⟩ = some (.int .i64 p.2.1) ∧ w.cell? ⟨b, o + i * 6 + 2, none⟩ = some (.bool p.2.2.1) ∧ w.cell? ⟨b, o + i * 6 + 3, none⟩ = some (.int .i64 p.2.2.2.1) ∧ w.cell? ⟨b, o + i * 6 + 4, none⟩ = some (.int .i64 p.2.2.2.2.1) ∧ w.cell? ⟨b, o + i * 6 + 5, none⟩ = some (.int .i64 p.2.2.2.2.2) ∧ NumAt w p.1.1 p.1.2 := by
  obtain ⟨b, o, cap, e, hc⟩ := row_get 6 voiceC voiceC_len (by omega) h.1 hp
  exact ⟨b, o, cap, e, hc 0 _ rfl, hc 1 _ rfl, hc 2 _ rfl, hc 3 _ rfl, hc 4 _ rfl, hc 5 _ rfl, h.2 p (List.mem_of_getElem? hp)⟩
/-- A row of its own, whose lists have blocks of their own. -/
structure VoiceO (w : World) (lo hi : Nat) (v : Value) (ps : List VoiceE) : Prop where
  row : RowO w lo hi 27 6 v ps.length (ps.flatMap voiceC)
  inn : ∀ (i : Nat) (p : VoiceE), ps[i]? = some p → NumO w lo hi p.1.1 p.1.2
  apart : ∀ (i j : Nat) (p p' : VoiceE), i ≠ j → ps[i]? = some p → ps[j]? = some p' → Ap p.1.1 p'.1.1
theorem VoiceO.but {w w' : World} {lo hi lo' hi' : Nat} {v : Value} {rs : List VoiceE} (h : VoiceO w lo hi v rs) (k : But lo' hi' w w') (ho : hi ≤ lo' ∨ hi' ≤ lo) : VoiceO w' lo hi v rs := ⟨RowO.but h.row k ho, fun i r hr => (h.inn i r hr).but k ho, h.apart⟩
theorem VoiceO.kept {w w' : World} {lo hi : Nat} {v : Value} {rs : List VoiceE} (h : VoiceO w lo hi v rs) (k : Kept w w') : VoiceO w' lo hi v rs := h.but k (by omega)
theorem VoiceO.mono {w : World} {lo hi lo' hi' : Nat} {v : Value} {rs : List VoiceE} (h : VoiceO w lo hi v rs) (h1 : lo' ≤ lo) (h2 : hi ≤ hi') : VoiceO w lo' hi' v rs := ⟨RowO.mono h.row h1 h2, fun i r hr => (h.inn i r hr).mono h1 h2, h.apart⟩
theorem VoiceO.low {w : World} {lo hi : Nat} {v : Value} {rs : List VoiceE} (h : VoiceO w lo hi v rs) : VoiceO w lo w.heap.size v rs := ⟨RowO.low h.row, fun i r hr => (h.inn i r hr).low, h.apart⟩
theorem VoiceO.at {w : World} {lo hi : Nat} {v : Value} {rs : List VoiceE} (h : VoiceO w lo hi v rs) : VoiceAt w v rs := ⟨own_row h.row.1, fun r hr => by
  obtain ⟨i, hi⟩ := List.mem_iff_getElem?.1 hr
  exact (h.inn i r hi).at⟩
theorem VoiceO.form {w : World} {lo hi : Nat} {v : Value} {rs : List VoiceE} (h : VoiceO w lo hi v rs) : ∃ ao cap, v = .slice ao rs.length cap := by
  obtain ⟨ao, cap, e, _⟩ := own_form h.row.1
  exact ⟨ao, cap, e⟩

end Go.Proofs.Ytapfafibhjpkdaa

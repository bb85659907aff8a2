/-
  Lists of voices as plain data.
-/
import Derived.Test.YtapfafibhjpkdaaVoiceF
import Derived.Test.YtapfafibhjpkdaaVoiceT
import Derived.Test.YtapfafibhjpkdaaVoiceE
namespace Go.Proofs.Ytapfafibhjpkdaa
open Go.ChangeShapes Go.WideShapes Go.ChangeAt Go.RowKit

set_option maxRecDepth 100000
set_option linter.unusedVariables false

/-- Lists of them as plain data. -/
def VoicesAt (w : World) (v : Value) (ds : List VoiceD) : Prop := ∃ ts, VoiceAt w v ts ∧ ts.map stripVoice = ds
def VoicesO (w : World) (lo hi : Nat) (v : Value) (ds : List VoiceD) : Prop := ∃ ts, VoiceO w lo hi v ts ∧ ts.map stripVoice = ds
section
variable {w w' : World} {v : Value} {ds : List VoiceD} {lo hi lo' hi' : Nat}
theorem voices_len {ts : List VoiceE} (h : ts.map stripVoice = ds) : ts.length = ds.length := by rw [← h]; simp
theorem VoicesAt.kept (h : VoicesAt w v ds) (k : Kept w w') : VoicesAt w' v ds := by obtain ⟨ts, h, e⟩ := h; exact ⟨ts, h.kept k, e⟩
theorem VoicesO.kept (h : VoicesO w lo hi v ds) (k : Kept w w') : VoicesO w' lo hi v ds := by obtain ⟨ts, h, e⟩ := h; exact ⟨ts, h.kept k, e⟩
theorem VoicesO.but (h : VoicesO w lo hi v ds) (k : But lo' hi' w w') (ho : hi ≤ lo' ∨ hi' ≤ lo) : VoicesO w' lo hi v ds := by obtain ⟨ts, h, e⟩ := h; exact ⟨ts, h.but k ho, e⟩
theorem VoicesO.mono (h : VoicesO w lo hi v ds) (h1 : lo' ≤ lo) (h2 : hi ≤ hi') : VoicesO w lo' hi' v ds := by obtain ⟨ts, h, e⟩ := h; exact ⟨ts, h.mono h1 h2, e⟩
theorem VoicesO.low (h : VoicesO w lo hi v ds) : VoicesO w lo w.heap.size v ds := by obtain ⟨ts, h, e⟩ := h; exact ⟨ts, h.low, e⟩
theorem VoicesO.at (h : VoicesO w lo hi v ds) : VoicesAt w v ds := by obtain ⟨ts, h, e⟩ := h; exact ⟨ts, h.at, e⟩
theorem VoicesAt.form (h : VoicesAt w v ds) : ∃ ao cap, v = .slice ao ds.length cap := by
  obtain ⟨ts, h, e⟩ := h
  obtain ⟨ao, cap, he⟩ := row_nil h.1
  exact ⟨ao, cap, by rw [he, voices_len e]⟩
theorem VoicesO.form (h : VoicesO w lo hi v ds) : ∃ ao cap, v = .slice ao ds.length cap := h.at.form
theorem VoicesAt.get (h : VoicesAt w v ds) {i : Nat} {d : VoiceD} (hd : ds[i]? = some d) : ∃ b o cap s, v = .slice (some ⟨b, o, none⟩) ds.length cap ∧ w.cell? ⟨b, o + i * 6, none⟩ = some s ∧ w.cell? ⟨b, o + i * 6 + 1, none⟩ = some (.int .i64 d.2.1) ∧ w.cell? ⟨b, o + i * 6 + 2, none⟩ = some (.bool d.2.2.1) ∧ w.cell? ⟨b, o + i * 6 + 3, none⟩ = some (.int .i64 d.2.2.2.1) ∧ w.cell? ⟨b, o + i * 6 + 4, none⟩ = some (.int .i64 d.2.2.2.2.1) ∧ w.cell? ⟨b, o + i * 6 + 5, none⟩ = some (.int .i64 d.2.2.2.2.2) ∧ NumAt w s d.1 := by
  obtain ⟨ts, h, e⟩ := h
  subst e
  rw [List.getElem?_map] at hd
  cases hp : ts[i]? with
  | none => rw [hp] at hd; simp at hd
  | some p =>
    rw [hp] at hd
    simp at hd
    subst hd
    obtain ⟨b, o, cap, e, c0, c1, c2, c3, c4, c5, hk⟩ := voice_get h hp
    exact ⟨b, o, cap, p.1.1, by simpa using e, c0, c1, c2, c3, c4, c5, hk⟩
end
def voicesOne (d : VoiceD) : Nat := d.1.length
def voicesCost (ds : List VoiceD) : Nat := ds.length + (ds.map voicesOne).sum
theorem voices_cost {ts : List VoiceE} {ds : List VoiceD} (h : ts.map stripVoice = ds) : voiceCost ts = voicesCost ds := by
  subst h
  unfold voiceCost voicesCost voiceSum
  rw [List.length_map, List.map_map]
  rfl
theorem voices_one {ds : List VoiceD} {d : VoiceD} (h : d ∈ ds) : voicesOne d ≤ voicesCost ds := by
  have : voicesOne d ≤ (ds.map voicesOne).sum := by
    induction ds with
    | nil => simp at h
    | cons x xs ih =>
      simp at h ⊢
      rcases h with rfl | h
      · omega
      · have := ih h
        omega
  unfold voicesCost
  omega
def VoicesFit (ds : List VoiceD) : Prop := ∀ d ∈ ds, d.1.length ≤ 9223372036854775807
theorem voices_fit {ts : List VoiceE} {ds : List VoiceD} (h : ts.map stripVoice = ds) (hf : VoicesFit ds) : VoiceFit ts := fun p hp => hf (stripVoice p) (by rw [← h]; exact List.mem_map_of_mem hp)
theorem voices_fit' {ts : List VoiceE} (hf : VoiceFit ts) : VoicesFit (ts.map stripVoice) := fun d hd => by
  obtain ⟨p, hp, rfl⟩ := List.mem_map.1 hd
  exact hf p hp
theorem szVoices (ds : List VoiceD) (v : Value) (left : Int) (w : World) (hv : VoicesAt w v ds) (hl : 0 ≤ left) (hm : left ≤ 1048576) (hn : ds.length ≤ 9223372036854775807) (hs : VoicesFit ds) :
    Calls Try.prog 14 #[v, .int .i64 left] w fun e w' => e = .returned (.int .i64 (leftOf left (voicesCost ds))) ∧ Kept w w' := by
  obtain ⟨ts, h, e⟩ := hv
  have := szVoiceS ts v left w h hl hm (by rw [voices_len e]; exact hn) (voices_fit e hs)
  rw [voices_cost e] at this
  exact this
theorem toVoices (ds : List VoiceD) (v : Value) (w : World) (hv : VoicesAt w v ds) (hl : voicesCost ds ≤ 1048576) :
    Calls Try.prog 16 #[v] w fun e w' => ∃ v', e = .returned v' ∧ VoicesO w' w.heap.size w'.heap.size v' ds ∧ Kept w w' := by
  obtain ⟨ts, h, e⟩ := hv
  have h1 : ts.length ≤ 1048576 := by rw [voices_len e]; unfold voicesCost at hl; omega
  refine (toVoiceS ts v w h h1 (fun p hp => ?_)).mono ?_
  · have := voices_one (ds := ds) (d := stripVoice p) (by rw [← e]; exact List.mem_map_of_mem hp)
    unfold voicesOne stripVoice at this
    dsimp only at this
    omega
  · rintro e' w' ⟨v', ys, rfl, hy, ho, hk⟩
    exact ⟨v', rfl, ⟨ys, ho, hy.trans e⟩, hk⟩
theorem eqVoices (ds : List VoiceD) (v v' : Value) (w : World) (hv : VoicesAt w v ds) (hv' : VoicesAt w v' ds) (hl : voicesCost ds ≤ 9000000000000000000) :
    Calls Try.prog 19 #[v, v'] w fun e w' => e = .returned (.bool true) ∧ Kept w w' := by
  obtain ⟨ts, h, e⟩ := hv
  obtain ⟨us, h', e'⟩ := hv'
  refine eqVoiceS ts us v v' w (e.trans e'.symm) h h' (by rw [voices_len e]; unfold voicesCost at hl; omega) (fun p hp => ?_)
  have := voices_one (ds := ds) (d := stripVoice p) (by rw [← e]; exact List.mem_map_of_mem hp)
  unfold voicesOne stripVoice at this
  dsimp only at this
  omega

end Go.Proofs.Ytapfafibhjpkdaa

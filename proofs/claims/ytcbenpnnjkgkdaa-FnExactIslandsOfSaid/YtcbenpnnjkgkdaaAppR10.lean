/-
  Lists put behind others, and set anew.
-/
import Derived.Test.YtcbenpnnjkgkdaaApp10
import Derived.Test.YtcbenpnnjkgkdaaIFst10
namespace Go.Proofs.Ytcbenpnnjkgkdaa
open Go.ChangeShapes Go.WideShapes Go.ChangeAt Go.RowKit

set_option maxRecDepth 100000
set_option linter.unusedVariables false
set_option linter.unusedSimpArgs false

theorem nil_lists (w : World) (lo hi : Nat) : LLO w lo hi (.slice none 0 0) [] := ⟨[], ⟨⟨World.ownsRow_nil _ _ _ _, fun g hg => by simp [Value.ownBlock] at hg⟩, fun i p hp => by simp at hp, fun i j p p' _ hp => by simp at hp⟩, rfl⟩
theorem infoR : (Try.prog.info? 35).map (fun i => (i.zero, i.size, i.bytes)) = some (some (.slice none 0 0), 1, 24) := by kernel_rfl
/-- A list of its own put behind others. -/
theorem appw_lists {w : World} {ops : Array Oper} {rest : List Oper} {o : Oper} {a : Act} {Q : Exit → Act → World → Prop} (hgd : o.guard = none) (s x : Operand)
    (ho : o.op = .call { callee := .builtin .append, args := #[s, x], argTypes := #[24, 24] }) {lo hi0 mid : Nat} {v : Value} {fs : List (List NumD)} (hs : a.eval s = v) (hown : LLO w lo hi0 v fs) (hh0 : hi0 ≤ mid) {b : Nat} (hx : a.eval x = .slice (some ⟨b, 0, none⟩) 1 1) (sv : Value) (l : List NumD) (hL : Loc w b [sv]) (h1v : sv.oneCell' = true) (hsv : NumO w mid w.heap.size sv l) (hlm : lo ≤ mid) (hmw : mid ≤ w.heap.size) (hb : fs.length + 1 ≤ 1000000)
    (h : ∀ v' w', LLO w' lo w'.heap.size v' (fs ++ [l]) → But lo hi0 w w' → wpList Try.prog ops Q rest (a.put o.dst v') w') : wpList Try.prog ops Q (o :: rest) a w := by
  obtain ⟨ts, hh, e⟩ := hown
  have hlen : ts.length = fs.length := by rw [← e, List.length_map]
  obtain ⟨i0, hi0, hz0, hz1, hz2⟩ := info_parts infoR
  obtain ⟨v', w', hr, h2, h3, -, h5⟩ := run_append_own_at (P := Try.prog) w lo 24 o.type 35 i0 (.slice none 0 0) 1 24 Try.underlying24 hi0 hz0 hz1 hz2 rfl (by decide) v ts.length (ts.flatMap numsC) hh.row.1 ⟨b, 0, none⟩ 1 1 (numsC (sv, l)) rfl (news1 hL) (fun u hu => by simp [numsC] at hu; subst hu; exact h1v) (by unfold maxLen; omega) (by omega) (by omega)
  have ha := app_lists (t := (sv, l)) (hh.mono (Nat.le_refl _) (Nat.le_trans hh0 hmw)) rfl (hsv.mono hlm (Nat.le_refl _)) (fun i p hp => ap_low (hh.inn i p hp) hsv (.inl hh0)) h2 h3
  exact Lib.wpList_append_run w hgd s x 24 24 ho _ _ hs hx _ _ hr (h v' w' ⟨_, ha.1, by rw [List.map_append, e]; rfl⟩ (But.inner (grown_but h3) hh.row))
theorem NumsO.cells {w : World} {lo hi g cap m : Nat} {ps : List NumsE} (h : NumsO w lo hi (.slice (some ⟨g, 0, none⟩) m cap) ps) {i : Nat} {p : NumsE} (hp : ps[i]? = some p) :
    w.cell? ⟨g, i, none⟩ = some p.1 ∧ ∀ o, w.frozen? ⟨g, o, none⟩ = false := by
  obtain ⟨hc, hf⟩ := own_get 1 numsC numsC_len (by omega) h.row hp
  exact ⟨by have := hc 0 _ rfl; simpa using this, hf⟩
/-- One list set anew. -/
theorem NumsO.reset {w w' : World} {lo hi g cap m : Nat} {ps : List NumsE} (h : NumsO w lo hi (.slice (some ⟨g, 0, none⟩) m cap) ps) (hn : m = ps.length) (hhi : hi ≤ w.heap.size) {i : Nat} {p : NumsE} (hp : ps[i]? = some p) {v' : Value} {l' : List NumD} (k : But (blo p.1) (bhi p.1) w w') (hk : NumO w' lo w'.heap.size v' l') (hv : v'.ownBlock = p.1.ownBlock ∨ v'.ownBlock = some w.heap.size) :
    NumsO (w'.setCell ⟨g, i, none⟩ v') lo w'.heap.size (.slice (some ⟨g, 0, none⟩) m cap) (ps.set i (v', l')) := by
  subst hn
  have hsz := k.size
  have row' : RowO w' lo hi 35 1 (.slice (some ⟨g, 0, none⟩) ps.length cap) ps.length (ps.flatMap numsC) := RowO.apart h.row k (ap_types h.row (h.inn i p hp) (by decide))
  have hset : ∀ (z : Value) (zl : List NumD), NumO w' lo w'.heap.size z zl → NumO (w'.setCell ⟨g, i, none⟩ v') lo w'.heap.size z zl := fun z zl hz =>
    RowO.apart hz (but_set w' g ps.length cap i v') (ap_types row' hz (by decide)).symm
  have hold : ∀ (j : Nat) (z : NumsE), j ≠ i → ps[j]? = some z → NumO w' lo w'.heap.size z.1 z.2 := fun j z hj hz =>
    (RowO.apart (h.inn j z hz) k (h.apart j i z p hj hz hp)).mono (Nat.le_refl _) (by omega)
  have hapn : ∀ (j : Nat) (z : NumsE), j ≠ i → ps[j]? = some z → Ap z.1 v' := fun j z hj hz g' hg hg' => by
    rcases hv with h4 | h4
    · exact h.apart j i z p hj hz hp g' hg (by rw [← h4]; exact hg')
    · rw [h4] at hg'
      cases hg'
      have := (h.inn j z hz).2 _ hg
      omega
  refine ⟨?_, fun j z hz => ?_, fun j n z z' hjn hz hz' => ?_⟩
  · have := RowO.set (RowO.mono row' (Nat.le_refl _) (show hi ≤ w'.heap.size by omega)) (1 * i + 0) v'
    rw [List.length_set]
    rw [flat_set 1 numsC numsC_len ps i 0 p (v', l') v' hp (by omega) rfl] at this
    simpa [World.setCell] using this
  · rcases get_set hz with ⟨_, rfl⟩ | ⟨hji, hz⟩
    · exact hset _ _ hk
    · exact hset _ _ (hold j z hji hz)
  · rcases get_set hz with ⟨h1, rfl⟩ | ⟨h1, g1⟩
    · rcases get_set hz' with ⟨h2, rfl⟩ | ⟨h2, g2⟩
      · exact absurd (h1.trans h2.symm) hjn
      · exact (hapn n z' h2 g2).symm
    · rcases get_set hz' with ⟨h2, rfl⟩ | ⟨h2, g2⟩
      · exact hapn j z h1 g1
      · exact h.apart j n z z' hjn g1 g2
abbrev IslP (m : Int) (ts : List PairD) : Prop := 0 ≤ m ∧ m ≤ 40 ∧ TieP m ts
def isA (m : Int) (ts : List PairD) : List (List Int) := if IslP m ts then isL (fstL (fst0 m.toNat) ts) m.toNat else []

end Go.Proofs.Ytcbenpnnjkgkdaa

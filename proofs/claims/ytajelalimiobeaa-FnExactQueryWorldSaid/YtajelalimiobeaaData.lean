/-
  Worlds as plain data: parts, entities, and how they lie in memory.
-/
import Derived.Test.YtajelalimiobeaaMem
namespace Go.Proofs.Ytajelalimiobeaa
open Go.ChangeShapes Go.WideShapes Go.ChangeAt Go.RowKit

/-- A part: name, value, tick. -/
abbrev PD := ByteArray × Int × Int
/-- An entity: its Id and its parts. -/
abbrev ED := Int × List PD
/-- A world: next, tick, entities. -/
abbrev WD := Int × Int × List ED
/-- An entity with the slice value of its parts. -/
abbrev PE := Int × Value × List PD

def pc (p : PD) : List Value := [.string p.1, .int .i64 p.2.1, .int .i64 p.2.2]
def partCells (ps : List PD) : List Value := ps.flatMap pc
def ec (z : PE) : List Value := [.int .i64 z.1, z.2.1]
def entCells (zs : List PE) : List Value := zs.flatMap ec
def strip (z : PE) : ED := (z.1, z.2.2)
theorem pc_len (p : PD) : (pc p).length = 3 := rfl
theorem ec_len (z : PE) : (ec z).length = 2 := rfl

def PartsAt (w : World) (v : Value) (ps : List PD) : Prop := RowAt w v ps.length (partCells ps)
def EntsAt (w : World) (v : Value) (zs : List PE) : Prop := RowAt w v zs.length (entCells zs) ∧ ∀ z ∈ zs, PartsAt w z.2.1 z.2.2
def WAt (w : World) (v : Value) (D : WD) : Prop := ∃ ev zs, v = .agg #[.int .i64 D.1, .int .i64 D.2.1, ev] ∧ EntsAt w ev zs ∧ zs.map strip = D.2.2

theorem PartsAt.kept {w w' : World} {v : Value} {ps : List PD} (h : PartsAt w v ps) (k : Kept w w') : PartsAt w' v ps := RowAt.kept h k
theorem EntsAt.kept {w w' : World} {v : Value} {zs : List PE} (h : EntsAt w v zs) (k : Kept w w') : EntsAt w' v zs := ⟨RowAt.kept h.1 k, fun z hz => (h.2 z hz).kept k⟩
theorem WAt.kept {w w' : World} {v : Value} {D : WD} (h : WAt w v D) (k : Kept w w') : WAt w' v D := by
  obtain ⟨ev, zs, e, h1, h2⟩ := h
  exact ⟨ev, zs, e, h1.kept k, h2⟩

theorem row_nil {w : World} {v : Value} {n : Nat} {xs : List Value} (h : RowAt w v n xs) : ∃ ao cap, v = .slice ao n cap := by
  obtain ⟨ao, cap, e, _⟩ := h
  exact ⟨ao, cap, e⟩
theorem parts_get {w : World} {v : Value} {ps : List PD} (h : PartsAt w v ps) {i : Nat} {p : PD} (hp : ps[i]? = some p) :
    ∃ b o cap, v = .slice (some ⟨b, o, none⟩) ps.length cap ∧ w.cell? ⟨b, o + i * 3, none⟩ = some (.string p.1) ∧ w.cell? ⟨b, o + i * 3 + 1, none⟩ = some (.int .i64 p.2.1) ∧ w.cell? ⟨b, o + i * 3 + 2, none⟩ = some (.int .i64 p.2.2) := by
  obtain ⟨ao, cap, rfl, hc⟩ := h
  have h0 := hc (3 * i + 0) _ (flat_get 3 pc pc_len ps i 0 p hp (by omega))
  have h1 := hc (3 * i + 1) _ (flat_get 3 pc pc_len ps i 1 p hp (by omega))
  have h2 := hc (3 * i + 2) _ (flat_get 3 pc pc_len ps i 2 p hp (by omega))
  obtain ⟨b, o, rfl, e0⟩ := h0
  obtain ⟨b1, o1, q1, e1⟩ := h1
  obtain ⟨b2, o2, q2, e2⟩ := h2
  cases q1
  cases q2
  refine ⟨b, o, cap, rfl, ?_, ?_, ?_⟩
  · rw [show o + i * 3 = o + (3 * i + 0) by omega]; exact e0
  · rw [show o + i * 3 + 1 = o + (3 * i + 1) by omega]; exact e1
  · rw [show o + i * 3 + 2 = o + (3 * i + 2) by omega]; exact e2
theorem ents_get {w : World} {v : Value} {zs : List PE} (h : EntsAt w v zs) {i : Nat} {z : PE} (hz : zs[i]? = some z) :
    ∃ b o cap ao n cap', v = .slice (some ⟨b, o, none⟩) zs.length cap ∧ z.2.1 = .slice ao n cap' ∧ w.cell? ⟨b, o + i * 2, none⟩ = some (.int .i64 z.1) ∧ w.cell? ⟨b, o + i * 2 + 1, none⟩ = some (.slice ao n cap') ∧ n = z.2.2.length ∧ PartsAt w (.slice ao n cap') z.2.2 := by
  obtain ⟨ao, cap, rfl, hc⟩ := h.1
  have h0 := hc (2 * i + 0) _ (flat_get 2 ec ec_len zs i 0 z hz (by omega))
  have h1 := hc (2 * i + 1) _ (flat_get 2 ec ec_len zs i 1 z hz (by omega))
  obtain ⟨b, o, rfl, e0⟩ := h0
  obtain ⟨b1, o1, q1, e1⟩ := h1
  cases q1
  have hp := h.2 z (List.mem_of_getElem? hz)
  obtain ⟨ao', cap', q⟩ := row_nil hp
  refine ⟨b, o, cap, ao', _, cap', rfl, q, ?_, ?_, rfl, by rw [← q]; exact hp⟩
  · rw [show o + i * 2 = o + (2 * i + 0) by omega]; exact e0
  · rw [show o + i * 2 + 1 = o + (2 * i + 1) by omega, ← q]; exact e1

/-- How much a list of parts weighs: its length and its names' bytes. -/
def psum (ps : List PD) : Nat := (ps.map fun p => p.1.size).sum
def pcost (ps : List PD) : Nat := ps.length + psum ps
def esum (es : List ED) : Nat := (es.map fun e => pcost e.2).sum
def ecost (es : List ED) : Nat := es.length + esum es
theorem take_snoc {α : Type} {l : List α} {k : Nat} {a : α} (h : l[k]? = some a) : l.take (k + 1) = l.take k ++ [a] := by
  rw [List.take_add_one, h]; rfl
theorem psum_snoc (l : List PD) (p : PD) : psum (l ++ [p]) = psum l + p.1.size := by simp [psum]
theorem esum_snoc (l : List ED) (e : ED) : esum (l ++ [e]) = esum l + pcost e.2 := by simp [esum]
theorem psum_take (l : List PD) (k : Nat) : psum (l.take k) ≤ psum l := by
  have h := congrArg psum (List.take_append_drop k l)
  have h2 : ∀ a b : List PD, psum (a ++ b) = psum a + psum b := fun a b => by simp [psum]
  rw [h2] at h
  omega
theorem esum_take (l : List ED) (k : Nat) : esum (l.take k) ≤ esum l := by
  have h := congrArg esum (List.take_append_drop k l)
  have h2 : ∀ a b : List ED, esum (a ++ b) = esum a + esum b := fun a b => by simp [esum]
  rw [h2] at h
  omega
theorem name_le {l : List PD} {k : Nat} {p : PD} (h : l[k]? = some p) : p.1.size ≤ psum l := by
  have := psum_take l (k + 1)
  rw [take_snoc h, psum_snoc] at this
  omega
theorem parts_le {l : List ED} {k : Nat} {e : ED} (h : l[k]? = some e) : pcost e.2 ≤ esum l := by
  have := esum_take l (k + 1)
  rw [take_snoc h, esum_snoc] at this
  omega
end Go.Proofs.Ytajelalimiobeaa

/-
  What is known of the quads.
-/
import Derived.Test.YtnfkgnbhdhpnmaaSame13
import Derived.Test.YtnfkgnbhdhpnmaaQuadS13
import Derived.Test.YtnfkgnbhdhpnmaaIQuads13
import Derived.Test.YtnfkgnbhdhpnmaaFacesI13
import Derived.Test.YtnfkgnbhdhpnmaaFaces13
namespace Go.Proofs.Ytnfkgnbhdhpnmaa
open Go.ChangeShapes Go.WideShapes Go.ChangeAt Go.RowKit

set_option maxRecDepth 100000
set_option linter.unusedVariables false
theorem forgetC2 {P : Program} {c : Go.Code} {Q : Exit → Act → World → Prop} {a : Act} {W : World} (F : World → Prop) (hF : F W) (h : ∀ W', F W' → Code.wp P c Q a W') : Code.wp P c Q a W := h W hF
/-- What is known of the quads. -/
structure QFacts (x y z : Int) (l : List Int) (Q : List QuadD) : Prop where
  all : ∀ p ∈ Q, ∃ way, way < 6 ∧ QOk way p
  free : Q.Pairwise Free
  len : Q.length ≤ 3072
  area : ∀ way, way < 6 → areaW way Q = cnt x y z l way l.length
theorem qfacts {x y z : Int} {l : List Int} (hg : BlocksP x y z l) : QFacts x y z l (quadsL x.toNat y.toNat z.toNat l 6) := by
  obtain ⟨h1, h2, h3, h4, h5⟩ := hg
  obtain ⟨A, rfl⟩ : ∃ n : Nat, x = (n : Int) := ⟨x.toNat, by omega⟩
  obtain ⟨B, rfl⟩ : ∃ n : Nat, y = (n : Int) := ⟨y.toNat, by omega⟩
  obtain ⟨D, rfl⟩ : ∃ n : Nat, z = (n : Int) := ⟨z.toNat, by omega⟩
  simp only [Int.toNat_natCast]
  have hp : ∀ p ∈ l, 0 ≤ p := fun p hp => (h5 p hp).1
  have hl : l.length = A * B * D := by have : ((A * B * D : Nat) : Int) = (A : Int) * B * D := by simp
                                       omega
  have hok := quadsL_ok (A := A) (B := B) (D := D) (by omega) (by omega) (by omega) ⟨by omega, by omega, by omega⟩ hp 6
  refine ⟨hok.1, hok.2, ?_, ?_⟩
  · have := quadsL_len (A := A) (B := B) (D := D) (by omega) (by omega) (by omega) l 6
    omega
  · intro way hw
    rw [areaL (by omega) (by omega) (by omega) ⟨by omega, by omega, by omega⟩ hp hl way 6 (by omega), if_pos hw]
theorem QFacts.inn {x y z : Int} {l : List Int} {Q : List QuadD} (h : QFacts x y z l Q) (k way : Nat) : 0 ≤ areaW way (Q.take k) ∧ areaW way (Q.take k) ≤ 196608 := by
  have h1 := areaW_in way (q := Q.take k) (fun p hp => h.all p (List.mem_of_mem_take hp))
  have h2 : (Q.take k).length ≤ Q.length := by rw [List.length_take]; omega
  have h3 := h.len
  omega
theorem QFacts.apart {x y z : Int} {l : List Int} {Q : List QuadD} (h : QFacts x y z l Q) {j k : Nat} {o q : QuadD} (hjk : j < k) (ho : Q[j]? = some o) (hq : Q[k]? = some q) : Free o q := by
  obtain ⟨h1, e1⟩ := List.getElem?_eq_some_iff.1 ho
  obtain ⟨h2, e2⟩ := List.getElem?_eq_some_iff.1 hq
  have := List.pairwise_iff_getElem.1 h.free j k h1 h2 hjk
  rw [e1, e2] at this
  exact this
theorem take_snocQ {α : Type} {Q : List α} {k : Nat} {q : α} (hq : Q[k]? = some q) : Q.take (k + 1) = Q.take k ++ [q] := by
  rw [List.take_add_one, hq]; rfl
theorem slice_to (W : World) (ao : Option Addr) (n cap k : Nat) (hk : k ≤ cap) : (Instr.slice 27 (.slice ao n cap) none (some (.int .i64 (k : Int))) none).run Try.prog W = .ok (sliced ao 0 k cap 7) W := by
  obtain ⟨i0, hi0, hz0, hz1, hz2⟩ := info_parts info_quad
  rw [run_slice_h W 27 _ _ _ Try.underlying27 .i64 (k : Int) (by omega) (by omega)]
  simp [sizeOf, typeInfo, show Try.prog.elem 27 = 33 from by kernel_rfl, hi0, hz1]
theorem sliced_to (ao : Option Addr) (k cap : Nat) : sliced ao 0 k cap 7 = .slice ao k cap := by
  unfold sliced; cases ao <;> simp [Addr.add]
theorem capQ {w : World} {lo hi : Nat} {ao : Option Addr} {n cap : Nat} {l : List QuadD} (h : QuadO w lo hi (.slice ao n cap) l) : n ≤ cap := by
  rcases h.1.2 with ⟨hf, _⟩ | ⟨g, c2, cur, hf, _, _, hle, _⟩
  · cases hf; omega
  · cases hf; omega

end Go.Proofs.Ytnfkgnbhdhpnmaa

/-
  The keys of the map, sorted.
-/
import Derived.Test.YthkfpbknfjapaaaMap17
import Derived.Test.YthkfpbknfjapaaaShelfK
namespace Go.Proofs.Ythkfpbknfjapaaa
open Go.ChangeShapes Go.WideShapes Go.ChangeAt Go.RowKit

set_option maxRecDepth 100000
set_option linter.unusedVariables false

open Go.Maps Go.Sort Go.Shelf
theorem sortsA (m : Nat) : AnyZI.SortsIn Try.prog Try.sortedA_ren Fence.wide m :=
  ⟨fun blk off cap ss W hH hblk hsz => callsIn_wide.2 (AnyM.slices_Sort_int Try.sortA blk off cap ss W hH hblk hsz),
   fun p cap W => callsIn_wide.2 (AnyM.slices_Sort_int_none Try.sortA p cap W)⟩
theorem ikeys (mb : Option Nat) (W : World) : Calls Try.prog 74 #[.map mb] W fun e w' => e = .returned (.func (.func 106) #[] #[.pointer (some ⟨W.heap.size, 0, none⟩)]) ∧ w' = W.alloc (.cells #[.map mb] 78) :=
  (callsIn_wide (n := 5)).1 (AnyZI.keys_in Try.keysA Fence.wide 5 trivial rfl mb W)
theorem rises_eq : ∀ {a b : List Int}, a.Pairwise (· ≤ ·) → Rises b → a.Perm b → a = b := fun {a b} ha hb hp =>
  List.Perm.eq_of_pairwise (le := fun x y : Int => x ≤ y) (fun x y _ _ h1 h2 => by omega) ha (hb.imp (fun h => by omega)) hp
theorem flat_enc (l : List Int) : l.flatMap numC = l.map encZ := by
  induction l with
  | nil => rfl
  | cons a l ih => rw [List.flatMap_cons, ih]; rfl
set_option maxHeartbeats 1000000 in
theorem isorted (h : List Int) (Bm b n : Nat) (w : World) (hm : KeysM w b n h) (hr : Rises h) (hl : h.length ≤ 1000) (hw : ∀ k ∈ h, 0 ≤ k ∧ k ≤ 99) (hc : w.cell? ⟨Bm, 0, none⟩ = some (.map (some b))) :
    Calls Try.prog 73 #[.func (.func 106) #[] #[.pointer (some ⟨Bm, 0, none⟩)]] w fun e w' => ∃ v', e = .returned v' ∧ NumO w' w.heap.size w'.heap.size v' h ∧ Kept w w' := by
  obtain ⟨D, hown, hhas⟩ := hm
  have hnd : h.Nodup := hr.imp (fun h => by omega)
  have hwf : ∀ x, Maps.has D (.int .i64 x) = true → (Lit.int .i64 x).wf = true := by
    obtain ⟨es, hes, hko⟩ := hown.keysOf
    intro x hx
    rw [hes, has_eq, List.any_eq_true] at hx
    obtain ⟨p, hp, hs⟩ := hx
    have h1 := WideAt.sameKey_eq hs
    obtain ⟨v, hv⟩ := hko p hp
    obtain ⟨y, _, hy, hl⟩ := Maps.keyOf_i64 Try.underlying3 hv
    rw [h1] at hy
    injection hy with _ e
    rw [e]
    exact hl
  have hp : h.Perm (intKeys D) := by
    refine CollectedI.perm (left := fun _ => false) ⟨hnd, fun x => ?_⟩ hown (int_keyed Try.underlying3) Try.underlying3 (fun _ => rfl)
    constructor
    · intro hx
      rw [hhas x (lit_wf (hw x hx).1 (hw x hx).2)]
      exact ⟨decide_eq_true hx, rfl⟩
    · rintro ⟨hx, _⟩
      have := hwf x hx
      rw [hhas x this] at hx
      exact of_decide_eq_true hx
  have hsz : Maps.size D ≤ 1000 := by
    have := hp.length_eq
    have e2 : (intKeys D).length = Maps.size D := by
      obtain ⟨es, e⟩ := hown.isMap
      rw [e]
      simp [intKeys, Maps.size]
    omega
  have hBm : Bm < w.heap.size := World.block_lt_of_cell? _ _ hc
  have hseq : SeqGives Fence.wide 2 Try.prog 106 #[.pointer (some ⟨Bm, 0, none⟩)] encZ (fun ss => ss.Perm (intKeys D)) (Maps.size D) w :=
    AnyZI.keys_gives (ρ := Try.keysA_ren) { Try.keysA with } Fence.wide _ trivial rfl (by omega) Bm b n D _ hBm hc hown
  have cS := AnyZI.sorted_in Try.sortedA Fence.wide 5 trivial trivial trivial trivial rfl (by omega) (sortsA _) (enters_of Try.func105 (by kernel_rfl) rfl) 106 #[.pointer (some ⟨Bm, 0, none⟩)] trivial (enters_of Try.func106 (by kernel_rfl) rfl) _ _ (by unfold maxLen; omega) (by omega) _ hseq
  change CallsIn _ _ Try.prog 73 _ _ _ at cS
  refine (callsIn_wide.1 cS).mono ?_
  rintro e w' ⟨v, ss, rfl, hS, hrow, hnil, hb⟩
  refine ⟨v, rfl, ?_, ⟨hb.os, hb.output, hb.size, fun g hg _ => hb.block g hg⟩⟩
  have he : ss.mergeSort (fun x y => decide (x ≤ y)) = h := rises_eq (by
      have := List.pairwise_mergeSort (le := fun x y : Int => decide (x ≤ y)) (fun a b c h1 h2 => by simp at h1 h2 ⊢; omega) (fun a b => by simp; omega) ss
      exact this.imp (fun h => by simpa using h)) hr ((List.mergeSort_perm _ _).trans (hS.trans hp.symm))
  rw [he] at hrow
  have hlen : ss.length = h.length := (hS.trans hp.symm).length_eq
  rw [hlen, ← flat_enc] at hrow
  exact RowO.top hrow

end Go.Proofs.Ythkfpbknfjapaaa

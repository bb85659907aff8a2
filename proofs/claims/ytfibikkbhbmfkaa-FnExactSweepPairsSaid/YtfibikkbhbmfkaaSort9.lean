/-
  Pairs sorted.
-/
import Derived.Test.YtfibikkbhbmfkaaShelf
import Derived.Test.YtfibikkbhbmfkaaGr9
import Derived.Shelf.SlSortCmp.NoneTotal
namespace Go.Proofs.Ytfibikkbhbmfkaa
open Go.ChangeShapes Go.WideShapes Go.ChangeAt Go.RowKit

set_option maxRecDepth 100000
set_option linter.unusedVariables false
set_option linter.unusedSimpArgs false

open Go.Shelf Go.Sort
theorem lt_pair (x y : PairD) : ltOf (fun x y : PairD => orI (cmpI x.1 y.1) (cmpI x.2 y.2)) x y = pairLt x y := by
  unfold ltOf pairLt
  exact orI_lt _ _ _ _
theorem swo_pair : SWO (ltOf fun x y : PairD => orI (cmpI x.1 y.1) (cmpI x.2 y.2)) where
  irrefl x := by rw [lt_pair]; simp [pairLt]
  trans x y z h1 h2 := by rw [lt_pair] at *; simp [pairLt] at *; omega
  ntrans x y z h1 h2 := by rw [lt_pair] at *; simp [pairLt] at *; omega
theorem pair_lays (blk off size : Nat) (w : World) : CmpLays Try.prog 50 #[] pairC 2 (fun x y : PairD => orI (cmpI x.1 y.1) (cmpI x.2 y.2)) blk off size w :=
  fun m os dk _ x y => by
    refine (comparePairs x.1 x.2 y.1 y.2 _).mono ?_
    rintro e w' ⟨rfl, hg⟩
    exact ⟨rfl, hg⟩
/-- What a row of its own of structs holds, for the sort. -/
theorem own_holds {α : Type} [Inhabited α] (k : Nat) (hk : 0 < k) (f : α → List Value) (hf : ∀ a, (f a).length = k) {l : List α} {w : World} {lo hi g cap : Nat} {e : TypeId} (ho : RowO w lo hi e k (.slice (some ⟨g, 0, none⟩) l.length cap) l.length (l.flatMap f)) : HoldsK f k w g 0 l.toArray := by
  intro j hj
  simp at hj
  have hi' : j / k < l.length := Nat.div_lt_of_lt_mul (by rw [Nat.mul_comm]; exact hj)
  obtain ⟨hc, hz⟩ := own_get k f hf hk ho (List.getElem?_eq_getElem hi')
  refine ⟨?_, hz _⟩
  have hm : j % k < (f l[j / k]).length := by rw [hf]; exact Nat.mod_lt _ hk
  have := hc (j % k) _ (List.getElem?_eq_getElem hm)
  rw [show 0 + j = j / k * k + j % k by rw [Nat.mul_comm, Nat.zero_add]; exact (Nat.div_add_mod j k).symm, this]
  rw [get_flatK f k l.toArray j (by simpa using hj)]
  simp [hi', hm]
/-- What the sort leaves is a row of its own. -/
theorem sorted_row {α : Type} [Inhabited α] (k : Nat) (hk : 0 < k) (f : α → List Value) (hf : ∀ a, (f a).length = k) {l : List α} {w : World} {lo hi g cap : Nat} {e : TypeId} (ho : RowO w lo hi e k (.slice (some ⟨g, 0, none⟩) l.length cap) l.length (l.flatMap f)) (d' : Array α) (m : Nat) (os : Array Obj) (hP : PermIn 0 l.length l.toArray d') :
    d'.toList.Perm l ∧ RowO (sortWorldK f k w g 0 m d' os) lo hi e k (.slice (some ⟨g, 0, none⟩) l.length cap) l.length (d'.toList.flatMap f) ∧ But g (g + 1) w (sortWorldK f k w g 0 m d' os) := by
  have hgw : g < w.heap.size := (own_lt ho.1 (g := g) rfl).2
  have hH := own_holds k hk f hf ho
  have hsz : d'.size = l.length := by simpa using hP.1
  have hperm : d'.toList.Perm l := by
    have := hP.2.2
    rw [show d'.extract 0 l.length = d' by rw [← hsz]; simp] at this
    simpa using this
  have hH' := holdsK_sortWorldK_c f k w g 0 l.toArray d' m os hH hgw (by simpa using hsz)
  have hB : But g (g + 1) w (sortWorldK f k w g 0 m d' os) := by
    refine ⟨rfl, rfl, ?_, fun b hb hne => ?_⟩
    · simp [sortWorldK, grow, putRowK, putRow, mapBlock, Sort.ahead]
    · simp only [sortWorldK, grow, putRowK, putRow, mapBlock, Sort.ahead]
      rw [Array.getElem?_append_left (by simpa using hb), Array.getElem?_modify, if_neg (by omega)]
  refine ⟨hperm, ?_, hB⟩
  rcases ho.1.2 with ⟨hv, _⟩ | ⟨g', cap', cur, hv, hb, hg, hnc, hcm, hsz2, htk⟩
  · cases hv
  · cases hv
    have hg' : (sortWorldK f k w g 0 m d' os).heap[g]? = some (.cells (putCells id 0 (flatK f k d') cur) e (0, 0)) := by
      simp only [sortWorldK, grow, putRowK, putRow, mapBlock, Sort.ahead]
      rw [Array.getElem?_append_left (by simpa using hgw), Array.getElem?_modify, if_pos rfl, hg]
      rfl
    have hcs : (putCells id 0 (flatK f k d') cur).size = cur.size := by simp [putCells]
    have hdl : d'.toList.length = l.length := by simpa using hsz
    refine ⟨⟨by rw [flat_len k f hf, hdl], .inr ⟨g, cap, _, rfl, hb, hg', hnc, hcm, by rw [hcs, hsz2], ?_⟩⟩, ho.2⟩
    apply List.ext_getElem?
    intro j
    rw [List.getElem?_take]
    split
    · rename_i hj
      have h1 := (hH' j (by simp [hsz]; exact hj)).1
      rw [Nat.zero_add, cell_of_row _ g j _ e (0, 0) hg'] at h1
      have hjk : j / k < d'.toList.length := by rw [hdl]; exact Nat.div_lt_of_lt_mul (by rw [Nat.mul_comm]; exact hj)
      have hg2 := flat_get k f hf d'.toList (j / k) (j % k) _ (List.getElem?_eq_getElem hjk) (Nat.mod_lt _ hk)
      rw [Nat.div_add_mod] at hg2
      rw [hg2]
      have h1' : (putCells id 0 (flatK f k d') cur).toList[j]? = some (id (flatK f k d')[j]!) := by simpa using h1
      rw [h1', get_flatK f k d' j (by rw [hsz]; exact hj)]
      have e1 : d'[j / k]! = d'.toList[j / k] := by
        rw [getElem!_pos d' (j / k) (by simpa using hjk)]
        simp
      rw [e1]
      have hk4 : j % k < (f d'.toList[j / k]).length := by rw [hf]; exact Nat.mod_lt _ hk
      rw [List.getElem?_eq_getElem hk4, getElem!_pos (f d'.toList[j / k]) (j % k) hk4]
      rfl
    · rename_i hj
      rw [List.getElem?_eq_none]
      rw [flat_len k f hf, hdl]
      omega
theorem own_someG {w : World} {base : Nat} {e : TypeId} {size : Nat} {v : Value} {n : Nat} {xs : List Value} (h : w.ownsRow base e size v n xs) (h0 : 0 < n) : ∃ g cap, v = .slice (some ⟨g, 0, none⟩) n cap := by
  rcases h.2 with ⟨rfl, hn, _⟩ | ⟨g, cap, cur, rfl, _⟩
  · omega
  · exact ⟨g, cap, rfl⟩
/-- Sorted in no order against lt, hence by it. -/
theorem pairwise_of {α : Type} [Inhabited α] {lt : α → α → Bool} {d : Array α} {m : Nat} (hm : d.size = m) (hS : SortedIn lt 0 m d) : d.toList.Pairwise (fun a b => lt b a = false) := by
  rw [List.pairwise_iff_getElem]
  intro i j hi hj hij
  have hj' : j < d.size := by simpa using hj
  have h := hS i j (by omega) hij (by omega)
  rw [getElem!_pos d i (by omega), getElem!_pos d j hj'] at h
  simpa using h
theorem pairLt_tot (a b : PairD) (h1 : pairLt a b = false) (h2 : pairLt b a = false) : a = b := by
  obtain ⟨a1, a2⟩ := a
  obtain ⟨b1, b2⟩ := b
  simp [pairLt] at h1 h2
  have e1 : a1 = b1 := by omega
  subst e1
  simp at h1 h2
  rw [show a2 = b2 by omega]
theorem sortPairs (ps l : List PairD) (v : Value) (w : World) (lo : Nat) (ho : PairO w lo w.heap.size v ps) (hp : l.Perm ps) (hl : l.Pairwise (fun a b => pairLt a b = true)) (hn : ps.length ≤ 1048576) :
    Calls Try.prog 49 #[v, .func (.func 50) #[] #[]] w fun e w' => e = .returned (.tuple #[]) ∧ PairO w' lo w'.heap.size v l ∧ But lo w.heap.size w w' := by
  by_cases h0 : 0 < ps.length
  · obtain ⟨g, cap, hfm⟩ := own_someG ho.1 h0
    subst hfm
    have hgw : g < w.heap.size := (own_lt ho.1 (g := g) rfl).2
    have eg : ∀ args w, (callFunc 50 args).run Try.prog w = .ok (.enter 50 args) w := enters_of Try.func50 (by kernel_rfl) rfl
    have h := AnyQ.slices_SortFunc Try.sortP 2 Try.isAgg70 Try.sizeOf70 pairC pairC_len (fun x v hv => one_pair x v hv) (fun x y : PairD => orI (cmpI x.1 y.1) (cmpI x.2 y.2)) swo_pair 50 #[] g 0 cap ps.toArray w eg (pair_lays g 0 ps.toArray.size w) (own_holds 2 (by omega) pairC pairC_len ho) hgw (by simp; omega)
    simp only [List.size_toArray] at h
    refine Calls.mono h ?_
    rintro e w' ⟨rfl, d', m, os, hP, hS, rfl⟩
    obtain ⟨h1, h2, h3⟩ := sorted_row 2 (by omega) pairC pairC_len ho d' m os hP
    have hd := pairwise_of (by simpa using hP.1) hS
    have e1 : d'.toList = l := by
      refine sorted_eq pairLt (fun a => by simp [pairLt]) (fun a b c h1 h2 => by simp [pairLt] at *; omega) pairLt_tot (h1.trans hp.symm) (hl.imp fun h => ?_) (hd.imp fun h => by rw [← lt_pair]; exact h)
      simp [pairLt] at h ⊢
      omega
    rw [e1] at h2
    have hlo := (own_lt ho.1 (g := g) rfl).1
    refine ⟨rfl, ?_, ⟨h3.os, h3.out, h3.size, fun b hb hne => h3.block b hb (by omega)⟩⟩
    have h4 : PairO (sortWorldK pairC 2 w g 0 m d' os) lo w.heap.size (.slice (some ⟨g, 0, none⟩) ps.length cap) l := by unfold PairO; rw [hp.length_eq]; exact h2
    exact h4.low
  · have hl0 : ps = [] := List.length_eq_zero_iff.1 (by omega)
    subst hl0
    have hl1 : l = [] := hp.eq_nil
    subst hl1
    obtain ⟨ao1, cap1, hfm⟩ := ho.form
    subst hfm
    have h := AnyF.slices_SortFunc_none Try.sortP ao1 cap1 (.func (.func 50) #[] #[]) w
    refine Calls.mono h ?_
    rintro e w2 ⟨rfl, rfl⟩
    exact ⟨rfl, ho, But.refl _ _ _⟩

end Go.Proofs.Ytfibikkbhbmfkaa

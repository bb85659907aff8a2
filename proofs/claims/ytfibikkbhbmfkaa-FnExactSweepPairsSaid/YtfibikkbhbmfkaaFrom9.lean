/-
  Figures sorted from the left.
-/
import Derived.Test.YtfibikkbhbmfkaaSort9
import Derived.Test.YtfibikkbhbmfkaaLeftC9
import Derived.Test.YtfibikkbhbmfkaaDel9
namespace Go.Proofs.Ytfibikkbhbmfkaa
open Go.ChangeShapes Go.WideShapes Go.ChangeAt Go.RowKit

set_option maxRecDepth 100000
set_option linter.unusedVariables false
set_option linter.unusedSimpArgs false

open Go.Shelf Go.Sort
/-- The least x of a list's figure. -/
def lefts (ps : List ShapeD) (i : Nat) : Int := (bnd (ps.getD i shape0)).1
def rights (ps : List ShapeD) (i : Nat) : Int := (bnd (ps.getD i shape0)).2.2.1
def leftLt (ps : List ShapeD) (a b : Nat) : Bool := decide (lefts ps a < lefts ps b) || decide (lefts ps a = lefts ps b) && decide (a < b)
abbrev below (n : Nat) := {i : Nat // i < n}
def encB {n : Nat} (x : below n) : Value := .int .i64 (x.1 : Int)
theorem ext_all {α : Type} (d : Array α) (n : Nat) (h : d.size = n) : d.extract 0 n = d := by subst h; simp
theorem one_encB {n : Nat} : Go.Proofs.OneCell (encB (n := n)) := fun x => rfl
def cmpB (ps : List ShapeD) (x y : below ps.length) : Int := orI (cmpI (lefts ps x.1) (lefts ps y.1)) (cmpI (x.1 : Int) (y.1 : Int))
theorem lt_cmpB (ps : List ShapeD) (x y : below ps.length) : ltOf (cmpB ps) x y = leftLt ps x.1 y.1 := by
  unfold ltOf leftLt cmpB
  rw [orI_lt]
  congr 2
  rw [Bool.eq_iff_iff, decide_eq_true_iff, decide_eq_true_iff]
  omega
theorem swo_cmpB (ps : List ShapeD) : SWO (ltOf (cmpB ps)) where
  irrefl x := by rw [lt_cmpB]; simp [leftLt]
  trans x y z h1 h2 := by rw [lt_cmpB] at *; simp [leftLt] at *; omega
  ntrans x y z h1 h2 := by rw [lt_cmpB] at *; simp [leftLt] at *; omega
theorem but_sort {α : Type} [Inhabited α] (enc : α → Value) (w : World) (g m : Nat) (d' : Array α) (os : Array Obj) : But g (g + 1) w (sortWorld enc w g 0 m d' os) := by
  refine ⟨rfl, rfl, ?_, fun b hb hne => ?_⟩
  · simp [sortWorld, grow, putRow, mapBlock, Sort.ahead]
  · simp only [sortWorld, grow, putRow, mapBlock, Sort.ahead]
    rw [Array.getElem?_append_left (by simpa using hb), Array.getElem?_modify, if_neg (by omega)]
theorem sorted_row1 {α : Type} [Inhabited α] (enc : α → Value) {l : List α} {w : World} {lo hi g cap : Nat} {e : TypeId} (ho : RowO w lo hi e 1 (.slice (some ⟨g, 0, none⟩) l.length cap) l.length (l.map enc)) (d' : Array α) (m : Nat) (os : Array Obj) (hs : d'.size = l.length) (hH : Holds enc w g 0 l.toArray) :
    RowO (sortWorld enc w g 0 m d' os) lo hi e 1 (.slice (some ⟨g, 0, none⟩) l.length cap) l.length (d'.toList.map enc) := by
  have hgw : g < w.heap.size := (own_lt ho.1 (g := g) rfl).2
  have hH' := holds_sortWorld enc w g 0 m l.toArray d' os hgw hH (by simpa using hs)
  rcases ho.1.2 with ⟨hv, _⟩ | ⟨g', cap', cur, hv, hb, hg, hnc, hcm, hsz2, htk⟩
  · cases hv
  · cases hv
    have hg' : (sortWorld enc w g 0 m d' os).heap[g]? = some (.cells (putCells enc 0 d' cur) e (0, 0)) := by
      simp only [sortWorld, grow, putRow, mapBlock, Sort.ahead]
      rw [Array.getElem?_append_left (by simpa using hgw), Array.getElem?_modify, if_pos rfl, hg]
      rfl
    have hcs : (putCells enc 0 d' cur).size = cur.size := by simp [putCells]
    refine ⟨⟨by simp [hs], .inr ⟨g, cap, _, rfl, hb, hg', hnc, hcm, by rw [hcs, hsz2], ?_⟩⟩, ho.2⟩
    apply List.ext_getElem?
    intro j
    rw [List.getElem?_take]
    split
    · rename_i hj
      have hj' : j < d'.size := by omega
      have h1 := (hH' j hj').1
      rw [Nat.zero_add, cell_of_row _ g j _ e (0, 0) hg'] at h1
      have h1' : (putCells enc 0 d' cur).toList[j]? = some (enc d'[j]!) := by simpa using h1
      rw [h1', List.getElem?_map, show d'.toList[j]? = some d'[j]! by rw [getElem!_pos d' j hj']; simp [hj']]
      rfl
    · rename_i hj
      rw [List.getElem?_eq_none]
      simp
      omega
set_option maxHeartbeats 4000000 in
/-- The numbers of figures, sorted from the left. -/
theorem sortLefts (ps : List ShapeD) (fao : Option Addr) (fcap Bf : Nat) (v : Value) (w1 w : World) (K1 : Kept w1 w) (hv : FigAt w1 (.slice fao ps.length fcap) ps) (hf : w1.cell? ⟨Bf, 0, none⟩ = some (.slice fao ps.length fcap)) (hg : shapesB ps = true) (ho : NumO w w1.heap.size w.heap.size v (nums (List.range ps.length))) :
    Calls Try.prog 63 #[v, .func (.func 64) #[] #[.pointer (some ⟨Bf, 0, none⟩)]] w fun e w' => e = .returned (.tuple #[]) ∧ (∃ ord : List Nat, ord.Perm (List.range ps.length) ∧ ord.Pairwise (fun a b => leftLt ps b a = false) ∧ NumO w' w1.heap.size w'.heap.size v (nums ord)) ∧ Kept w1 w' := by
  have hn := shapes_len hg
  by_cases h0 : 0 < ps.length
  · haveI : Inhabited (below ps.length) := ⟨⟨0, h0⟩⟩
    have hl : (nums (List.range ps.length)).length = ps.length := by simp [nums]
    obtain ⟨g, cap, hfm⟩ := own_someG ho.1 (by omega)
    rw [hl] at hfm
    subst hfm
    have hgw := own_lt ho.1 (g := g) rfl
    obtain ⟨xs, hxs⟩ : ∃ xs : List (below ps.length), xs.map (fun x => x.1) = List.range ps.length := by
      refine ⟨(List.range ps.length).attach.map (fun x => ⟨x.1, List.mem_range.1 x.2⟩), ?_⟩
      simp [List.map_map, Function.comp_def]
    have hxl : xs.length = ps.length := by have := congrArg List.length hxs; simpa using this
    have hrow : RowO w w1.heap.size w.heap.size 3 1 (.slice (some ⟨g, 0, none⟩) xs.length cap) xs.length (xs.map encB) := by
      have h1 : RowO w w1.heap.size w.heap.size 3 1 (.slice (some ⟨g, 0, none⟩) ps.length cap) (nums (List.range ps.length)).length ((nums (List.range ps.length)).flatMap numC) := ho
      rw [hl] at h1
      rw [hxl, show xs.map encB = (nums (List.range ps.length)).flatMap numC by rw [← hxs]; simp [nums, numC, encB, List.flatMap_map, List.map_map, Function.comp_def, ← List.map_eq_flatMap]]
      exact h1
    have hH : Holds encB w g 0 xs.toArray := by
      intro j hj
      have hj' : j < xs.length := by simpa using hj
      obtain ⟨hc, hz⟩ := own_get 1 (fun x => [encB x]) (fun _ => rfl) (by omega) (ps := xs) (show RowO w w1.heap.size w.heap.size 3 1 (.slice (some ⟨g, 0, none⟩) xs.length cap) xs.length (xs.flatMap fun x => [encB x]) by rw [← List.map_eq_flatMap]; exact hrow) (List.getElem?_eq_getElem hj')
      have := hc 0 _ rfl
      refine ⟨?_, hz _⟩
      rw [Nat.zero_add, show xs.toArray[j]! = xs[j] by rw [getElem!_pos xs.toArray j hj]; simp]
      simpa using this
    have eg : ∀ args w, (callFunc 64 args).run Try.prog w = .ok (.enter 64 args) w := enters_of Try.func64 (by kernel_rfl) rfl
    have hc : CmpLays1 Try.prog 64 #[.pointer (some ⟨Bf, 0, none⟩)] encB (cmpB ps) g 0 xs.toArray.size w := fun m os dk _ x y => by
      have hK : Kept w1 (sortWorld encB w g 0 m dk os) := K1.onto (but_sort encB w g m dk os) hgw.1
      obtain ⟨p, hp⟩ : ∃ p, ps[x.1]? = some p := ⟨_, List.getElem?_eq_getElem x.2⟩
      obtain ⟨q, hq⟩ : ∃ p, ps[y.1]? = some p := ⟨_, List.getElem?_eq_getElem y.2⟩
      have e1 : lefts ps x.1 = (bnd p).1 := by simp [lefts, List.getD, hp]
      have e2 : lefts ps y.1 = (bnd q).1 := by simp [lefts, List.getD, hq]
      refine (cloLeft ps fao fcap Bf x.1 y.1 p q _ (FigAt.kept hv hK) hp hq (shapes_good hg hp) (shapes_good hg hq) hn (Kept.cell hK hf)).mono ?_
      rintro e w' ⟨rfl, hgr⟩
      refine ⟨?_, hgr⟩
      unfold cmpB
      rw [e1, e2]
    have h := Any.slices_SortFunc Try.sortI encB one_encB (cmpB ps) (swo_cmpB ps) 64 #[.pointer (some ⟨Bf, 0, none⟩)] g 0 cap xs.toArray w eg hc hH hgw.2 (by simp; omega)
    simp only [List.size_toArray] at h
    rw [hxl] at h
    refine Calls.mono h ?_
    rintro e w' ⟨rfl, d', m, os, hP, hS, rfl⟩
    have hsz : d'.size = xs.length := by simpa using hP.1
    have hperm : d'.toList.Perm xs := by
      have := hP.2.2
      rw [ext_all d' ps.length (hsz.trans hxl), ext_all xs.toArray ps.length (by simpa using hxl)] at this
      simpa using this
    have hrow2 := sorted_row1 encB hrow d' m os hsz hH
    have hd := pairwise_of (by rw [hsz, hxl]) hS
    refine ⟨rfl, ⟨d'.toList.map (fun x => x.1), ?_, ?_, ?_⟩, K1.onto (but_sort encB w g m d' os) hgw.1⟩
    · rw [← hxs]; exact hperm.map _
    · rw [List.pairwise_map]
      exact hd.imp fun h => by rw [← lt_cmpB]; exact h
    · have h5 : NumO (sortWorld encB w g 0 m d' os) w1.heap.size w.heap.size (.slice (some ⟨g, 0, none⟩) ps.length cap) (nums (d'.toList.map (fun x => x.1))) := by
        unfold NumO
        rw [nums_len, List.length_map, show d'.toList.length = ps.length from (by simpa using hsz.trans hxl), show (nums (d'.toList.map (fun x => x.1))).flatMap numC = d'.toList.map encB by simp [nums, numC, encB, List.flatMap_map, List.map_map, Function.comp_def, ← List.map_eq_flatMap]]
        rw [hxl] at hrow2
        exact hrow2
      exact h5.low
  · have hl0 : ps.length = 0 := by omega
    rw [hl0] at ho ⊢
    obtain ⟨ao1, cap1, hfm⟩ := ho.form
    subst hfm
    have h := AnyF.slices_SortFunc_none (P := Try.prog) (ρ := Try.sortI_ren) { Try.sortI with } ao1 cap1 (.func (.func 64) #[] #[.pointer (some ⟨Bf, 0, none⟩)]) w
    refine Calls.mono h ?_
    rintro e w2 ⟨rfl, rfl⟩
    exact ⟨rfl, ⟨[], by simp, by simp, by simpa using ho⟩, K1⟩

end Go.Proofs.Ytfibikkbhbmfkaa

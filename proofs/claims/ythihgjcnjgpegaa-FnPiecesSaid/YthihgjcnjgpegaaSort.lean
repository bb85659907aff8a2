/-
  Timers sorted by their Ids.
-/
import Derived.Test.YthihgjcnjgpegaaShelf
import Derived.Test.YthihgjcnjgpegaaFind
import Derived.Test.YthihgjcnjgpegaaHeap
import Derived.Test.YthihgjcnjgpegaaPlace
import Derived.Test.YthihgjcnjgpegaaApp
namespace Go.Proofs.Ythihgjcnjgpegaa
open Go.ChangeShapes Go.WideShapes Go.ChangeAt Go.RowKit

open Go.Shelf Go.Sort
set_option maxRecDepth 100000
theorem lt_id (x y : TimerD) : ltOf (fun x y : TimerD => cmpI x.1 y.1) x y = decide (x.1 < y.1) := by
  unfold ltOf
  exact cmpI_lt
theorem swo_id : SWO (ltOf fun x y : TimerD => cmpI x.1 y.1) where
  irrefl x := by rw [lt_id]; simp
  trans x y z h1 h2 := by rw [lt_id] at *; simp at *; omega
  ntrans x y z h1 h2 := by rw [lt_id] at *; simp at *; omega
theorem cmp_lays (blk off size : Nat) (w : World) : CmpLays Try.prog 45 #[] timerC 4 (fun x y : TimerD => cmpI x.1 y.1) blk off size w :=
  fun m os dk _ x y => by
    refine (compareIds x.1 x.2.1 x.2.2.1 x.2.2.2 y.1 y.2.1 y.2.2.1 y.2.2.2 _).mono ?_
    rintro e w' ⟨rfl, rfl⟩
    exact ⟨rfl, 0, _, by rw [alloc_eq_grow, alloc_eq_grow, grow_grow]; rfl⟩
theorem timer_holds {l : List TimerD} {w : World} {lo hi g cap : Nat} (ho : TimerO w lo hi (.slice (some ⟨g, 0, none⟩) l.length cap) l) : HoldsK timerC 4 w g 0 l.toArray := by
  intro j hj
  simp at hj
  have hi' : j / 4 < l.length := by omega
  obtain ⟨hc, hf⟩ := own_get 4 timerC timerC_len (by omega) ho (List.getElem?_eq_getElem hi')
  refine ⟨?_, hf _⟩
  have hk : j % 4 < (timerC l[j / 4]).length := by rw [timerC_len]; omega
  have := hc (j % 4) _ (List.getElem?_eq_getElem hk)
  rw [show 0 + j = j / 4 * 4 + j % 4 by omega, this]
  rw [get_flatK timerC 4 l.toArray j (by simpa using hj)]
  simp [hi', hk]
/-- Of two lists that rise by Id and hold the same timers one is the other. -/
theorem sorted_eq {l d : List TimerD} (hp : d.Perm l) (hr : Rising l) (hs : ∀ i j, i < j → j < d.length → ¬ (atT d j).1 < (atT d i).1) : d = l := by
  have hl : l.Pairwise (fun a b : TimerD => a.1 < b.1) := by
    rw [List.pairwise_iff_getElem]
    intro i j hi hj hij
    exact hr i j _ _ hij (List.getElem?_eq_getElem hi) (List.getElem?_eq_getElem hj)
  have hd : d.Pairwise (fun a b : TimerD => a.1 ≤ b.1) := by
    rw [List.pairwise_iff_getElem]
    intro i j hi hj hij
    have := hs i j hij hj
    rw [atT_of (List.getElem?_eq_getElem hi), atT_of (List.getElem?_eq_getElem hj)] at this
    omega
  have hl' : l.Pairwise (fun a b : TimerD => a.1 ≤ b.1) := hl.imp (fun h => by omega)
  refine hp.eq_of_pairwise (fun a b ha hb h1 h2 => ?_) hd hl'
  have ha' := hp.mem_iff.1 ha
  obtain ⟨i, hi⟩ := List.mem_iff_getElem?.1 ha'
  obtain ⟨j, hj⟩ := List.mem_iff_getElem?.1 hb
  rcases Nat.lt_trichotomy i j with h | h | h
  · have := hr i j a b h hi hj; omega
  · subst h; rw [hi] at hj; exact Option.some.inj hj
  · have := hr j i b a h hj hi; omega

set_option maxHeartbeats 2000000 in
theorem sortTimers (ps l : List TimerD) (w : World) (lo hi g cap : Nat) (ho : TimerO w lo hi (.slice (some ⟨g, 0, none⟩) ps.length cap) ps) (hp : l.Perm ps) (hr : Rising l) (hn : ps.length ≤ 1048576) :
    Calls Try.prog 68 #[.slice (some ⟨g, 0, none⟩) ps.length cap, .func (.func 45) #[] #[]] w fun e w' => e = .returned (.tuple #[]) ∧ TimerO w' lo hi (.slice (some ⟨g, 0, none⟩) ps.length cap) l ∧ But g (g + 1) w w' := by
  have hgw : g < w.heap.size := (own_lt ho.1 (g := g) rfl).2
  have hH := timer_holds ho
  have eg : ∀ args w, (callFunc 45 args).run Try.prog w = .ok (.enter 45 args) w := enters_of Try.func45 (by kernel_rfl) rfl
  have h := AnyQ.slices_SortFunc Try.sortT 4 Try.isAgg46 Try.sizeOf46 timerC timerC_len (fun x v hv => one4 x v hv) (fun x y : TimerD => cmpI x.1 y.1) swo_id 45 #[] g 0 cap ps.toArray w eg (cmp_lays g 0 ps.toArray.size w) hH hgw (by simp; omega)
  simp only [List.size_toArray] at h
  refine Calls.mono h ?_
  rintro e w' ⟨rfl, d', n, os, hP, hS, rfl⟩
  have hsz : d'.size = ps.length := by simpa using hP.1
  have hperm : d'.toList.Perm ps := by
    have := hP.2.2
    rw [show d'.extract 0 ps.length = d' by rw [← hsz]; simp] at this
    simpa using this
  have hdl : d'.toList = l := by
    refine sorted_eq (hperm.trans hp.symm) hr fun i j hij hj => ?_
    have hj' : j < d'.size := by simpa using hj
    have := hS i j (by omega) hij (by omega)
    rw [lt_id] at this
    have ei : d'[i]! = atT d'.toList i := by
      rw [getElem!_pos d' i (by omega)]
      exact (atT_of (by simp [Array.getElem?_eq_getElem (show i < d'.size by omega)])).symm
    have ej : d'[j]! = atT d'.toList j := by
      rw [getElem!_pos d' j hj']
      exact (atT_of (by simp [Array.getElem?_eq_getElem hj'])).symm
    rw [ei, ej] at this
    simpa using this
  have hH' := holdsK_sortWorldK_c timerC 4 w g 0 ps.toArray d' n os hH hgw (by simpa using hsz)
  have hB : But g (g + 1) w (sortWorldK timerC 4 w g 0 n d' os) := by
    refine ⟨rfl, rfl, ?_, fun b hb hne => ?_⟩
    · simp [sortWorldK, grow, putRowK, putRow, mapBlock, Sort.ahead]
    · simp only [sortWorldK, grow, putRowK, putRow, mapBlock, Sort.ahead]
      rw [Array.getElem?_append_left (by simpa using hb), Array.getElem?_modify, if_neg (by omega)]
  refine ⟨rfl, ?_, hB⟩
  have hll : l.length = ps.length := hp.length_eq
  rcases ho.1.2 with ⟨hv, _⟩ | ⟨g', cap', cur, hv, hb, hg, hnc, hcm, hsz2, htk⟩
  · cases hv
  · cases hv
    have hg' : (sortWorldK timerC 4 w g 0 n d' os).heap[g]? = some (.cells (putCells id 0 (flatK timerC 4 d') cur) 46 (0, 0)) := by
      simp only [sortWorldK, grow, putRowK, putRow, mapBlock, Sort.ahead]
      rw [Array.getElem?_append_left (by simpa using hgw), Array.getElem?_modify, if_pos rfl, hg]
      rfl
    have hcs : (putCells id 0 (flatK timerC 4 d') cur).size = cur.size := by simp [putCells]
    unfold TimerO
    rw [hll]
    refine ⟨⟨by rw [flat_len 4 timerC timerC_len, hll], .inr ⟨g, cap, _, rfl, hb, hg', hnc, hcm, by rw [hcs, hsz2], ?_⟩⟩, ho.2⟩
    apply List.ext_getElem?
    intro j
    rw [List.getElem?_take]
    split
    · rename_i hj
      have h1 := (hH' j (by simp [hsz]; omega)).1
      rw [Nat.zero_add, cell_of_row _ g j _ 46 (0, 0) hg'] at h1
      have hj4 : j / 4 < l.length := by omega
      have hg2 := flat_get 4 timerC timerC_len l (j / 4) (j % 4) _ (List.getElem?_eq_getElem hj4) (by omega)
      rw [Nat.div_add_mod] at hg2
      rw [hg2]
      have h1' : (putCells id 0 (flatK timerC 4 d') cur).toList[j]? = some (id (flatK timerC 4 d')[j]!) := by simpa using h1
      rw [h1', get_flatK timerC 4 d' j (by rw [hsz]; omega)]
      have e1 : d'[j / 4]! = l[j / 4] := by
        rw [getElem!_pos d' (j / 4) (by omega)]
        simp [← hdl]
      rw [e1]
      have hk4 : j % 4 < (timerC l[j / 4]).length := by rw [timerC_len]; omega
      rw [List.getElem?_eq_getElem hk4, getElem!_pos (timerC l[j / 4]) (j % 4) hk4]
      rfl
    · rename_i hj
      rw [List.getElem?_eq_none]
      rw [flat_len 4 timerC timerC_len, hll]
      omega
/-- Any number of timers, nil too. -/
theorem sortAny (ps l : List TimerD) (v : Value) (w : World) (lo : Nat) (ho : TimerO w lo w.heap.size v ps) (hp : l.Perm ps) (hr : Rising l) (hn : ps.length ≤ 1048576) (h0 : 0 < ps.length) :
    Calls Try.prog 68 #[v, .func (.func 45) #[] #[]] w fun e w' => e = .returned (.tuple #[]) ∧ TimerO w' lo w'.heap.size v l ∧ But lo w.heap.size w w' := by
  obtain ⟨g, cap, hfm⟩ := own_some ho.1 h0
  subst hfm
  refine (sortTimers ps l w lo w.heap.size g cap ho hp hr hn).mono ?_
  rintro e w' ⟨rfl, h1, h2⟩
  have hlo := (own_lt ho.1 (g := g) rfl).1
  have hhi := ho.2 g rfl
  exact ⟨rfl, h1.low, ⟨h2.os, h2.out, h2.size, fun b hb hne => h2.block b hb (by omega)⟩⟩

end Go.Proofs.Ythihgjcnjgpegaa

/-
  Binds sorted by their actions.
-/
import Derived.Test.YthkfpbknfjapaaaBindQ17
import Derived.Test.YthkfpbknfjapaaaShelfF
import Derived.Shelf.SlSortCmp.NoneTotal
import Derived.WalkLawsBesides
namespace Go.Proofs.Ythkfpbknfjapaaa
open Go.ChangeShapes Go.WideShapes Go.ChangeAt Go.RowKit

set_option maxRecDepth 100000
set_option linter.unusedVariables false

open Go.Shelf Go.Sort
def cmpS (a b : ByteArray) : Int := if less a b then -1 else if less b a then 1 else 0
theorem inan (a : ByteArray) (w : World) : Calls Try.prog 126 #[.string a] w fun e w' => e = .returned (.bool false) ∧ w' = w := by
  go_enter Try.func126, Try.ntmps126
  go_wp2
  go_ret
  exact ⟨rfl, rfl⟩
set_option maxHeartbeats 1000000 in
theorem icmp (a b : ByteArray) (w : World) : Calls Try.prog 103 #[.string a, .string b] w fun e w' => e = .returned (.int .i64 (cmpS a b)) ∧ w' = w := by
  have h1 : less a b = Op.bytesLess a.toList b.toList := rfl
  have h2 : less b a = Op.bytesLess b.toList a.toList := rfl
  unfold cmpS
  cases q1 : Op.bytesLess a.toList b.toList with
  | true =>
    rw [h1, q1, if_pos rfl]
    clear h1 h2
    go_enter Try.func103, Try.ntmps103
    repeat (first | (go_at_call 126; refine (inan _ _).mono ?_; rintro e w3 ⟨rfl, hw3⟩; rw [hw3]; clear hw3 w3; dsimp only) | go_values | go_skip | go_guarded | go_step | go_upon)
    go_ret
    exact ⟨rfl, rfl⟩
  | false =>
    rw [h1, q1, if_neg (by simp)]
    cases q2 : Op.bytesLess b.toList a.toList with
    | true =>
      rw [h2, q2, if_pos rfl]
      have q3 : (a.toList == b.toList) = false := by
        cases h : (a.toList == b.toList) with
        | false => rfl
        | true =>
          have e := eq_of_beq h
          rw [e, bl_irr] at q2
          cases q2
      clear h1 h2
      go_enter Try.func103, Try.ntmps103
      repeat (first | (go_at_call 126; refine (inan _ _).mono ?_; rintro e w3 ⟨rfl, hw3⟩; rw [hw3]; clear hw3 w3; dsimp only) | go_values | go_skip | go_guarded | go_step | go_upon)
      go_ret
      exact ⟨rfl, rfl⟩
    | false =>
      rw [h2, q2, if_neg (by simp)]
      have q3 : (a.toList == b.toList) = true := by
        cases h : (a.toList == b.toList) with
        | true => rfl
        | false =>
          have e := bl_tri _ _ q1 (by simpa using h)
          rw [e] at q2
          cases q2
      clear h1 h2
      go_enter Try.func103, Try.ntmps103
      repeat (first | (go_at_call 126; refine (inan _ _).mono ?_; rintro e w3 ⟨rfl, hw3⟩; rw [hw3]; clear hw3 w3; dsimp only) | go_values | go_skip | go_guarded | go_step | go_upon)
      go_ret
      exact ⟨rfl, rfl⟩
set_option maxHeartbeats 1000000 in
theorem icompare (a b : ByteArray) (s t : Value) (hs : ∃ x n c, s = .slice x n c) (ht : ∃ x n c, t = .slice x n c) (w : World) :
    Calls Try.prog 66 #[.agg #[.string a, s], .agg #[.string b, t]] w fun e w' => e = .returned (.int .i64 (cmpS a b)) ∧ w' = (w.alloc (.cells #[.string a, s] 85)).alloc (.cells #[.string b, t] 85) := by
  obtain ⟨x, n, c, rfl⟩ := hs
  obtain ⟨y, m, d, rfl⟩ := ht
  go_enter Try.func66, Try.ntmps66
  repeat (first | (go_at_call 103; refine (icmp _ _ _).mono ?_; rintro e w3 ⟨rfl, hw3⟩; rw [hw3]; clear hw3 w3; dsimp only) | go_values | go_skip | go_guarded | go_step | go_upon)
  go_ret
  exact ⟨rfl, rfl⟩
/-- A bind whose chord lies in memory. -/
abbrev BindX := { p : BindE // ∃ a n c, p.2.1 = .slice a n c }
instance : Inhabited BindX := ⟨⟨bind0, none, 0, 0, rfl⟩⟩
def bindX (x : BindX) : List Value := bindC x.1
theorem bindX_len (x : BindX) : (bindX x).length = 2 := rfl
theorem bindX_one (x : BindX) : ∀ v ∈ bindX x, v.oneCell' = true := fun v hv => by
  obtain ⟨a, n, c, h⟩ := x.2
  simp only [bindX, bindC, List.mem_cons, List.not_mem_nil, or_false] at hv
  rcases hv with rfl | rfl
  · rfl
  · rw [h]; rfl
theorem lt_bind (x y : BindX) : ltOf (fun x y : BindX => cmpS x.1.1 y.1.1) x y = less x.1.1 y.1.1 := by
  unfold ltOf cmpS
  dsimp only
  by_cases h1 : less x.1.1 y.1.1 = true
  · simp [h1]
  · by_cases h2 : less y.1.1 x.1.1 = true
    · simp [h1, h2]
    · simp [h1, h2]
theorem less_ntrans {a b c : ByteArray} (h1 : less a b = false) (h2 : less b c = false) : less a c = false := by
  cases h : less a c with
  | false => rfl
  | true =>
    by_cases e : b = c
    · subst e; rw [h] at h1; cases h1
    · have h3 := less_trans h (less_tri h2 e)
      rw [h3] at h1
      cases h1
theorem swo_bind : SWO (ltOf fun x y : BindX => cmpS x.1.1 y.1.1) where
  irrefl x := by rw [lt_bind]; exact less_irr _
  trans x y z h1 h2 := by rw [lt_bind] at *; exact less_trans h1 h2
  ntrans x y z h1 h2 := by rw [lt_bind] at *; exact less_ntrans h1 h2
theorem bind_lays (blk off size : Nat) (w : World) : CmpLays Try.prog 66 #[] bindX 2 (fun x y : BindX => cmpS x.1.1 y.1.1) blk off size w :=
  fun m os dk _ x y => by
    refine (icompare x.1.1 y.1.1 x.1.2.1 y.1.2.1 x.2 y.2 _).mono ?_
    rintro e w' ⟨rfl, rfl⟩
    exact ⟨rfl, 0, _, by rw [alloc_eq_grow, alloc_eq_grow, grow_grow]; rfl⟩
/-- What a row of its own of structs holds, for the sort. -/
theorem own_holds {α : Type} [Inhabited α] (k : Nat) (hk : 0 < k) (f : α → List Value) (hf : ∀ a, (f a).length = k) {l : List α} {w : World} {lo hi g cap : Nat} {e : TypeId} (ho : RowO w lo hi e k (.slice (some ⟨g, 0, none⟩) l.length cap) l.length (l.flatMap f)) : HoldsK f k w g 0 l.toArray := by
  intro j hj
  simp at hj
  have hi' : j / k < l.length := Nat.div_lt_of_lt_mul (by rw [Nat.mul_comm]; exact hj)
  obtain ⟨hc, hz⟩ := own_get k f hf hk ho (List.getElem?_eq_getElem hi')
  refine ⟨?_, hz _⟩
  have hm : j % k < (f l[j / k]).length := by rw [hf]; exact Nat.mod_lt _ hk
  have := hc (j % k) _ (List.getElem?_eq_getElem hm)
  rw [show 0 + j = j / k * k + j % k by rw [Nat.mul_comm, Nat.zero_add]; exact (Nat.div_add_mod j k).symm, this]
  rw [get_flatK f k l.toArray j (by simpa using hj)]
  simp [hi', hm]
/-- What the sort leaves is a row of its own. -/
theorem sorted_row {α : Type} [Inhabited α] (k : Nat) (hk : 0 < k) (f : α → List Value) (hf : ∀ a, (f a).length = k) {l : List α} {w : World} {lo hi g cap : Nat} {e : TypeId} (ho : RowO w lo hi e k (.slice (some ⟨g, 0, none⟩) l.length cap) l.length (l.flatMap f)) (d' : Array α) (m : Nat) (os : Array Obj) (hP : PermIn 0 l.length l.toArray d') :
    d'.toList.Perm l ∧ RowO (sortWorldK f k w g 0 m d' os) lo hi e k (.slice (some ⟨g, 0, none⟩) l.length cap) l.length (d'.toList.flatMap f) ∧ But g (g + 1) w (sortWorldK f k w g 0 m d' os) := by
  have hgw : g < w.heap.size := (own_lt ho.1 (g := g) rfl).2
  have hH := own_holds k hk f hf ho
  have hsz : d'.size = l.length := by simpa using hP.1
  have hperm : d'.toList.Perm l := by
    have := hP.2.2
    rw [show d'.extract 0 l.length = d' by rw [← hsz]; simp] at this
    simpa using this
  have hH' := holdsK_sortWorldK_c f k w g 0 l.toArray d' m os hH hgw (by simpa using hsz)
  have hB : But g (g + 1) w (sortWorldK f k w g 0 m d' os) := by
    refine ⟨rfl, rfl, ?_, fun b hb hne => ?_⟩
    · simp [sortWorldK, grow, putRowK, putRow, mapBlock, Sort.ahead]
    · simp only [sortWorldK, grow, putRowK, putRow, mapBlock, Sort.ahead]
      rw [Array.getElem?_append_left (by simpa using hb), Array.getElem?_modify, if_neg (by omega)]
  refine ⟨hperm, ?_, hB⟩
  rcases ho.1.2 with ⟨hv, _⟩ | ⟨g', cap', cur, hv, hb, hg, hnc, hcm, hsz2, htk⟩
  · cases hv
  · cases hv
    have hg' : (sortWorldK f k w g 0 m d' os).heap[g]? = some (.cells (putCells id 0 (flatK f k d') cur) e (0, 0)) := by
      simp only [sortWorldK, grow, putRowK, putRow, mapBlock, Sort.ahead]
      rw [Array.getElem?_append_left (by simpa using hgw), Array.getElem?_modify, if_pos rfl, hg]
      rfl
    have hcs : (putCells id 0 (flatK f k d') cur).size = cur.size := by simp [putCells]
    have hdl : d'.toList.length = l.length := by simpa using hsz
    refine ⟨⟨by rw [flat_len k f hf, hdl], .inr ⟨g, cap, _, rfl, hb, hg', hnc, hcm, by rw [hcs, hsz2], ?_⟩⟩, ho.2⟩
    apply List.ext_getElem?
    intro j
    rw [List.getElem?_take]
    split
    · rename_i hj
      have h1 := (hH' j (by simp [hsz]; exact hj)).1
      rw [Nat.zero_add, cell_of_row _ g j _ e (0, 0) hg'] at h1
      have hjk : j / k < d'.toList.length := by rw [hdl]; exact Nat.div_lt_of_lt_mul (by rw [Nat.mul_comm]; exact hj)
      have hg2 := flat_get k f hf d'.toList (j / k) (j % k) _ (List.getElem?_eq_getElem hjk) (Nat.mod_lt _ hk)
      rw [Nat.div_add_mod] at hg2
      rw [hg2]
      have h1' : (putCells id 0 (flatK f k d') cur).toList[j]? = some (id (flatK f k d')[j]!) := by simpa using h1
      rw [h1', get_flatK f k d' j (by rw [hsz]; exact hj)]
      have e1 : d'[j / k]! = d'.toList[j / k] := by
        rw [getElem!_pos d' (j / k) (by simpa using hjk)]
        simp
      rw [e1]
      have hk4 : j % k < (f d'.toList[j / k]).length := by rw [hf]; exact Nat.mod_lt _ hk
      rw [List.getElem?_eq_getElem hk4, getElem!_pos (f d'.toList[j / k]) (j % k) hk4]
      rfl
    · rename_i hj
      rw [List.getElem?_eq_none]
      rw [flat_len k f hf, hdl]
      omega
theorem own_someG {w : World} {base : Nat} {e : TypeId} {size : Nat} {v : Value} {n : Nat} {xs : List Value} (h : w.ownsRow base e size v n xs) (h0 : 0 < n) : ∃ g cap, v = .slice (some ⟨g, 0, none⟩) n cap := by
  rcases h.2 with ⟨rfl, hn, _⟩ | ⟨g, cap, cur, rfl, _⟩
  · omega
  · exact ⟨g, cap, rfl⟩
/-- Sorted in no order against lt, hence by it. -/
theorem pairwise_of {α : Type} [Inhabited α] {lt : α → α → Bool} {d : Array α} {m : Nat} (hm : d.size = m) (hS : SortedIn lt 0 m d) : d.toList.Pairwise (fun a b => lt b a = false) := by
  rw [List.pairwise_iff_getElem]
  intro i j hi hj hij
  have hj' : j < d.size := by simpa using hj
  have h := hS i j (by omega) hij (by omega)
  rw [getElem!_pos d i (by omega), getElem!_pos d j hj'] at h
  simpa using h

theorem lift_list {α : Type} {p : α → Prop} : ∀ l : List α, (∀ x ∈ l, p x) → ∃ xs : List {x // p x}, xs.map Subtype.val = l
  | [], _ => ⟨[], rfl⟩
  | x :: l, h => by
    obtain ⟨xs, hxs⟩ := lift_list l (fun y hy => h y (by simp [hy]))
    exact ⟨⟨x, h x (by simp)⟩ :: xs, by simp [hxs]⟩
theorem bindO_pw {w : World} {lo hi : Nat} {v : Value} {ts : List BindE} (h : BindO w lo hi v ts) : ts.Pairwise (fun p q => Ap p.2.1 q.2.1) := by
  rw [List.pairwise_iff_getElem]
  intro i j hi hj hij
  exact h.apart i j _ _ (by omega) (List.getElem?_eq_getElem hi) (List.getElem?_eq_getElem hj)
/-- Of two lists in order that hold the same one is the other. -/
theorem order_eq {d R : List BindD} (hp : d.Perm R) (hR : R.Pairwise (fun a b => less a.1 b.1 = true)) (hd : d.Pairwise (fun a b => less b.1 a.1 = false)) : d = R := by
  refine hp.eq_of_pairwise (le := fun a b : BindD => less b.1 a.1 = false) (fun a b ha hb h1 h2 => ?_) hd (hR.imp (fun h => less_asym h))
  have ha' := hp.mem_iff.1 ha
  obtain ⟨i, hi⟩ := List.mem_iff_getElem?.1 ha'
  obtain ⟨j, hj⟩ := List.mem_iff_getElem?.1 hb
  rw [List.pairwise_iff_getElem] at hR
  obtain ⟨hi1, hi2⟩ := List.getElem?_eq_some_iff.1 hi
  obtain ⟨hj1, hj2⟩ := List.getElem?_eq_some_iff.1 hj
  rcases Nat.lt_trichotomy i j with h | h | h
  · have := hR i j hi1 hj1 h
    rw [hi2, hj2, h2] at this
    cases this
  · subst h; rw [hi] at hj; exact Option.some.inj hj
  · have := hR j i hj1 hi1 h
    rw [hi2, hj2, h1] at this
    cases this
set_option maxHeartbeats 1000000 in
theorem sortBinds (ds R : List BindD) (v : Value) (w : World) (lo : Nat) (ho : BindsO w lo w.heap.size v ds) (hp : R.Perm ds) (hR : R.Pairwise (fun a b => less a.1 b.1 = true)) (hn : ds.length ≤ 1048576) (h0 : 0 < ds.length) :
    Calls Try.prog 65 #[v, .func (.func 66) #[] #[]] w fun e w' => e = .returned (.tuple #[]) ∧ BindsO w' lo w'.heap.size v R ∧ But lo w.heap.size w w' := by
  obtain ⟨ts, h, e⟩ := ho
  have hlen : ts.length = ds.length := binds_len e
  obtain ⟨g, cap, hfm⟩ := own_someG h.row.1 (by omega)
  subst hfm
  have hgw : g < w.heap.size := (own_lt h.row.1 (g := g) rfl).2
  have hgl : lo ≤ g := (own_lt h.row.1 (g := g) rfl).1
  have hX : ∀ p ∈ ts, ∃ a n c, p.2.1 = .slice a n c := fun p hp => by
    obtain ⟨i, hi⟩ := List.mem_iff_getElem?.1 hp
    obtain ⟨a, c, hs⟩ := (h.inn i p hi).form
    exact ⟨a, _, c, hs⟩
  obtain ⟨xs, hxs⟩ : ∃ xs : List BindX, xs.map Subtype.val = ts := lift_list ts hX
  have hxl : xs.length = ts.length := by rw [← hxs]; simp
  have hfl : ∀ zs : List BindX, zs.flatMap bindX = (zs.map Subtype.val).flatMap bindC := fun zs => by
    induction zs with
    | nil => rfl
    | cons z zs ih => rw [List.flatMap_cons, ih, List.map_cons, List.flatMap_cons]; rfl
  have hrow : RowO w lo w.heap.size 85 2 (.slice (some ⟨g, 0, none⟩) xs.length cap) xs.length (xs.flatMap bindX) := by
    rw [hfl, hxs, hxl]
    exact h.row
  have eg : ∀ args w, (callFunc 66 args).run Try.prog w = .ok (.enter 66 args) w := enters_of Try.func66 (by kernel_rfl) rfl
  have hs := AnyQ.slices_SortFunc Try.sortB 2 Try.isAgg85 Try.sizeOf85 bindX bindX_len bindX_one (fun x y : BindX => cmpS x.1.1 y.1.1) swo_bind 66 #[] g 0 cap xs.toArray w eg (bind_lays g 0 xs.toArray.size w) (own_holds 2 (by omega) bindX bindX_len hrow) hgw (by simp; omega)
  simp only [List.size_toArray] at hs
  rw [hxl] at hs
  refine Calls.mono hs ?_
  rintro e' w' ⟨rfl, d', m, os, hP, hS, rfl⟩
  rw [← hxl] at hP hS
  obtain ⟨hperm, hrow', hB⟩ := sorted_row 2 (by omega) bindX bindX_len hrow d' m os hP
  have hpm : (d'.toList.map Subtype.val).Perm ts := by rw [← hxs]; exact hperm.map _
  have hpw := pairwise_of (by simpa using hP.1) hS
  have hstrip : (d'.toList.map Subtype.val).map stripBind = R := by
    refine order_eq ((hpm.map stripBind).trans (by rw [e]; exact hp.symm)) hR ?_
    rw [List.pairwise_map, List.pairwise_map]
    exact hpw.imp (fun {a b} h => by rw [lt_bind] at h; exact h)
  refine ⟨rfl, ⟨d'.toList.map Subtype.val, ⟨?_, fun i p hpi => ?_, fun i j p q hij hpi hqj => ?_⟩, hstrip⟩, ⟨hB.os, hB.out, hB.size, fun b hb hne => hB.block b hb (by omega)⟩⟩
  · have hl : (d'.toList.map Subtype.val).length = ts.length := hpm.length_eq
    rw [hl, ← hfl]
    rw [hxl] at hrow'
    exact RowO.low hrow'
  · have hmem : p ∈ ts := hpm.mem_iff.1 (List.mem_of_getElem? hpi)
    obtain ⟨k, hk⟩ := List.mem_iff_getElem?.1 hmem
    have hk2 := h.inn k p hk
    refine NumO.mono (RowO.apart hk2 (v' := .slice (some ⟨g, 0, none⟩) ts.length cap) hB ?_) (Nat.le_refl _) hB.size
    exact (ap_types h.row hk2 (by decide)).symm
  · have hq := (bindO_pw h)
    have hq2 : (d'.toList.map Subtype.val).Pairwise (fun p q : BindE => Ap p.2.1 q.2.1) := (hpm.pairwise_iff (fun {a b} h => h.symm)).2 hq
    rw [List.pairwise_iff_getElem] at hq2
    obtain ⟨hi1, hi2⟩ := List.getElem?_eq_some_iff.1 hpi
    obtain ⟨hj1, hj2⟩ := List.getElem?_eq_some_iff.1 hqj
    rcases Nat.lt_or_gt_of_ne hij with hlt | hlt
    · have := hq2 i j hi1 hj1 hlt
      rw [hi2, hj2] at this
      exact this
    · have := hq2 j i hj1 hi1 hlt
      rw [hi2, hj2] at this
      exact this.symm

end Go.Proofs.Ythkfpbknfjapaaa

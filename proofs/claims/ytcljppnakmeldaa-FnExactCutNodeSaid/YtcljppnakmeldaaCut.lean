/-
  CutNode: what it answers; and in the program.
-/
import Derived.Test.YtcljppnakmeldaaOn
import Derived.Test.YtcljppnakmeldaaHang
import Derived.Test.YtcljppnakmeldaaSpotOf
namespace Go.Proofs.Ytcljppnakmeldaa
open Go.ChangeShapes Go.WideShapes Go.ChangeAt Go.RowKit

/-- One node more: the new numbers so far (-1: it goes), and those that stay. -/
def cutB (c : Nat) (st : List Int × List NodeD) (n : NodeD) : Bool := decide (st.1.length = c) || (decide (0 ≤ n.2.1) && decide (st.1[n.2.1.toNat]?.getD 0 < 0))
def cutN (st : List Int × List NodeD) (n : NodeD) : NodeD := (n.1, (if 0 ≤ n.2.1 then st.1[n.2.1.toNat]?.getD 0 else n.2.1), n.2.2)
def cutStep (c : Nat) (st : List Int × List NodeD) (n : NodeD) : List Int × List NodeD :=
  if cutB c st n then (st.1 ++ [-1], st.2) else (st.1 ++ [(st.2.length : Int)], st.2 ++ [cutN st n])
def cutAt (c : Nat) (l : List NodeD) (k : Nat) : List Int × List NodeD := (l.take k).foldl (cutStep c) ([], [])
theorem cutAt_succ {c : Nat} {l : List NodeD} {k : Nat} {n : NodeD} (h : l[k]? = some n) : cutAt c l (k + 1) = cutStep c (cutAt c l k) n := by
  unfold cutAt
  rw [take_snoc h, List.foldl_append]
  rfl
theorem cutStep_len (c : Nat) (st : List Int × List NodeD) (n : NodeD) : (cutStep c st n).1.length = st.1.length + 1 := by
  unfold cutStep
  split <;> simp
theorem cutAt_len {c : Nat} {l : List NodeD} : ∀ k, k ≤ l.length → (cutAt c l k).1.length = k
  | 0, _ => by simp [cutAt]
  | k + 1, h => by
    have hk : k < l.length := by omega
    rw [cutAt_succ (List.getElem?_eq_getElem hk), cutStep_len, cutAt_len k (by omega)]
theorem cutAt_out {c : Nat} {l : List NodeD} : ∀ k, k ≤ l.length → (cutAt c l k).2.length ≤ k
  | 0, _ => by simp [cutAt]
  | k + 1, h => by
    have hk : k < l.length := by omega
    have ih := cutAt_out (c := c) (l := l) k (by omega)
    rw [cutAt_succ (List.getElem?_eq_getElem hk)]
    unfold cutStep
    split
    · simp; omega
    · simp; omega
theorem cutStep_old (c : Nat) (st : List Int × List NodeD) (n : NodeD) {i : Nat} (h : i < st.1.length) : (cutStep c st n).1[i]? = st.1[i]? := by
  unfold cutStep
  split <;> simp [List.getElem?_append_left h]
/-- A number below nought: just those on whose way up the cut one lies. -/
theorem cut_on {c : Nat} {l : List NodeD} (hG : GoodL l) : ∀ k, k ≤ l.length → ∀ (i : Nat) (xs : List UpE), i < k → Chain l (i : Int) xs → (((cutAt c l k).1[i]?.getD 0 < 0) ↔ (xs.any fun x => x.1 == (c : Int)) = true)
  | 0, _, _, _, h, _ => by omega
  | k + 1, hk, i, xs, hi, hc => by
    have hkl : k < l.length := by omega
    have hln := cutAt_len (c := c) (l := l) k (by omega)
    have hs := cutAt_succ (c := c) (List.getElem?_eq_getElem hkl)
    by_cases hik : i < k
    · rw [hs, cutStep_old c _ _ (by omega)]
      exact cut_on hG k (by omega) i xs hik hc
    · obtain rfl : i = k := by omega
      cases xs with
      | nil => have : (i : Int) = -1 := hc
               omega
      | cons x r =>
        obtain ⟨j, n, hj, hl, rfl, hlt, hr⟩ := hc
        obtain rfl : i = j := by omega
        have hn : l[i] = n := by rw [List.getElem?_eq_getElem hkl] at hl; exact Option.some.inj hl
        rw [hn] at hs
        have hup : -1 ≤ n.2.1 := (hG.2 i n hl).2.1
        have hic : ((i : Int) == (c : Int)) = decide (i = c) := by rw [Bool.eq_iff_iff]; simp; omega
        have key : cutB c (cutAt c l i) n = ((((i : Int) == (c : Int))) || (r.any fun x => x.1 == (c : Int))) := by
          unfold cutB
          rw [hln, hic]
          by_cases h0 : 0 ≤ n.2.1
          · obtain ⟨u, hu⟩ : ∃ u : Nat, n.2.1 = u := ⟨n.2.1.toNat, by omega⟩
            rw [hu] at hr hlt
            have := cut_on (c := c) hG i (by omega) u r (by omega) hr
            rw [hu]
            rw [Bool.eq_iff_iff]
            simp [← this]
          · have hm : n.2.1 = -1 := by omega
            have hrn : r = [] := by
              cases r with
              | nil => rfl
              | cons y q =>
                rw [hm] at hr
                obtain ⟨j', _, hj', _⟩ := hr
                omega
            subst hrn
            rw [Bool.eq_iff_iff]
            simp [hm]
        rw [hs]
        have hg : (cutStep c (cutAt c l i) n).1[i]?.getD 0 = if cutB c (cutAt c l i) n then -1 else ((cutAt c l i).2.length : Int) := by
          unfold cutStep
          split <;> simp [hln]
        rw [hg, List.any_cons, ← key]
        cases cutB c (cutAt c l i) n <;> simp

theorem alloc_new' (X : World) (o : Obj) (n : Nat) (h : n = X.heap.size) : (X.alloc o).heap[n]? = some o := by subst h; exact World.alloc_heap_new X o
set_option maxRecDepth 100000 in
set_option maxHeartbeats 8000000 in
theorem cut_ok (l : List NodeD) (v : Value) (c lo hi : Nat) (w : World) (ho : NodeO w lo hi v l) (hn : l.length ≤ 1048576) (hs : ∀ p ∈ l, p.1.size ≤ 1048576) (hG : GoodL l) (hc : c < l.length) :
    Calls Try.prog 32 #[v, .int .i64 (c : Int)] w fun e w' => ∃ v', e = .returned (.tuple #[v', .bool true]) ∧ NodeO w' w.heap.size w'.heap.size v' (cutAt c l l.length).2 ∧ Kept w w' := by
  obtain ⟨ao, cap, hsl, hcap⟩ := own_cap ho.1
  subst hsl
  have hv := ho.at
  have h40 := hG.1
  have HB : Hid (true = true ↔ GoodL l) := (by simp [hG] : true = true ↔ GoodL l)
  have q2 : (decide (0 ≤ (c : Int)) && decide ((c : Int) < (l.length : Int))) = true := by simp; omega
  obtain ⟨i0, hi0, hz0, hz1, hz2⟩ := info_parts info36
  go_enter Try.func32, Try.ntmps32
  repeat (first
    | (go_at_call 23; refine (end_of HB.out (implGood l _ lo hi _ ho hn hs)).mono ?_; rintro e w1 ⟨rfl, k1⟩; dsimp only)
    | (go_at_call 46; refine (hasNode _ _ _ _ _).mono ?_; rintro e w' ⟨rfl, h⟩; rw [h, q2]; clear h; dsimp only)
    | go_values | go_skip | go_guarded | go_step | go_upon)
  have hw1 := k1.size
  go_loopw [6, 8, 9, 21] (fun tv _ _ i wr => ∃ (k : Nat) (ao2 : Option Addr) (cap2 : Nat) (A : List Int), k ≤ l.length ∧ i = .int .i64 k ∧ tv = .slice ao2 (cutAt c l k).2.length cap2 ∧ wr.ownsRow (w1.heap.size + 1) 36 6 (.slice ao2 (cutAt c l k).2.length cap2) (cutAt c l k).2.length ((cutAt c l k).2.flatMap nodeC) ∧ A.length = 40 ∧ (∀ j z, j < k → (cutAt c l k).1[j]? = some z → 0 ≤ z → A[j]? = some z) ∧ Loc wr w1.heap.size (A.map (Value.int .i64)) ∧ Kept w1 wr) (fun _ _ _ i _ => l.length - (intOf i).toNat)
  case atStart => exact ⟨0, none, 0, List.replicate 40 0, by omega, rfl, rfl, World.ownsRow_nil _ _ _ _, rfl, fun j z h => by omega, Loc.new w1 ((List.replicate 40 (0 : Int)).map (Value.int .i64)) 81, (But.refl _ _ _).alloc _⟩
  case round =>
    obtain ⟨k, ao2, cap2, A, hk, rfl, rfl, hown, hA, hAn, hL, hkp⟩ := hrel
    by_cases hlt : k < l.length
    · obtain ⟨⟨nm, up, x, y, t, f⟩, hp⟩ : ∃ p, l[k]? = some p := ⟨_, List.getElem?_eq_getElem hlt⟩
      obtain ⟨b, o, cap3, e, c0, c1, c2, c3, c4, c5⟩ := node_get (hv.kept (k1.trans hkp)) hp
      cases e
      dsimp only at c0 c1 c2 c3 c4 c5
      obtain ⟨xs, hch, hxl, hxg⟩ := chain_of hG (k : Int) (by omega) (by omega)
      have hln := cutAt_len (c := c) (l := l) k (by omega)
      have hol := cutAt_out (c := c) (l := l) k (by omega)
      have hon := cut_on (c := c) hG (k + 1) (by omega) k xs (by omega) hch
      have hsu := cutAt_succ (c := c) hp
      obtain ⟨ak, hak⟩ : ∃ z, A[k]? = some z := ⟨_, List.getElem?_eq_getElem (by omega)⟩
      have hup1 : -1 ≤ up := (hG.2 k _ hp).2.1
      have hup2 : up < (k : Int) := (hG.2 k _ hp).2.2.1
      try dsimp only at hup1 hup2
      have hlw := hL.lt
      have hkz := hkp.size
      have HO : Hid _ := hown
      have HL : Hid (Loc wr w1.heap.size (A.map (Value.int .i64))) := hL
      have HK : Hid (Kept w1 wr) := hkp
      have HAn : Hid _ := hAn
      have hbw := World.block_lt_of_cell? wr _ c0
      clear hown hL hkp hAn
      have HH : Hid _ := fun W h => hangsOn l (.slice (some ⟨b, o, none⟩) l.length cap) (k : Int) (c : Int) xs hch W h
      cases hcb : (xs.any fun x => x.1 == (c : Int)) with
      | true =>
        have hB : cutB c (cutAt c l k) (nm, up, x, y, t, f) = true := by
          cases hq : cutB c (cutAt c l k) (nm, up, x, y, t, f) with
          | true => rfl
          | false =>
            have := hon.2 hcb
            rw [hsu, cutStep, hq] at this
            simp [hln] at this
            omega
        have hE : cutAt c l (k + 1) = ((cutAt c l k).1 ++ [-1], (cutAt c l k).2) := by rw [hsu, cutStep, hB]; rfl
        have HE : Hid _ := hE
        clear hE hB hon hsu
        repeat (first
          | (go_at_call 61; refine (HH.out _ (hv.kept ((k1.trans HK.out).alloc _))).mono ?_; rintro e w2 ⟨rfl, k2⟩; rw [hcb]; dsimp only)
          | go_values | go_skip | go_guarded | go_step | go_upon)
        have k2' : Kept wr w2 := ((But.refl _ _ wr).alloc _).trans k2
        refine ⟨⟨k + 1, ao2, cap2, A, hlt, by go_num, ?_, ?_, hA, ?_, HL.out.kept k2', HK.out.trans k2'⟩, by simp [intOf]; omega⟩
        · rw [HE.out]
        · rw [HE.out]; exact own_kept HO.out k2'
        · intro j z hj hz h0
          rw [HE.out] at hz
          by_cases hjk : j < k
          · rw [List.getElem?_append_left (by omega)] at hz
            exact HAn.out j z hjk hz h0
          · obtain rfl : j = k := by omega
            rw [List.getElem?_append_right (by omega), hln, Nat.sub_self] at hz
            simp at hz
            omega
      | false =>
        have hB : cutB c (cutAt c l k) (nm, up, x, y, t, f) = false := by
          cases hq : cutB c (cutAt c l k) (nm, up, x, y, t, f) with
          | false => rfl
          | true =>
            have := hon.1 (by rw [hsu, cutStep, hq]; simp [hln])
            rw [hcb] at this
            cases this
        have hE : cutAt c l (k + 1) = ((cutAt c l k).1 ++ [((cutAt c l k).2.length : Int)], (cutAt c l k).2 ++ [cutN (cutAt c l k) (nm, up, x, y, t, f)]) := by rw [hsu, cutStep, hB]; rfl
        by_cases hm : up = -1
        · have hm0 : (up == -1) = true := by simp [hm]
          have hE2 : cutAt c l (k + 1) = ((cutAt c l k).1 ++ [((cutAt c l k).2.length : Int)], (cutAt c l k).2 ++ [(nm, up, x, y, t, f)]) := by
            rw [hE, cutN]
            simp [hm]
          have hm1 : (!(up == -1)) = false := by simp [hm]
          clear hm
          obtain ⟨M, hM⟩ : ∃ M, (cutAt c l k).2.length = M := ⟨_, rfl⟩
          rw [hM] at hol hE2
          have HE : Hid (cutAt c l (k + 1) = ((cutAt c l k).1 ++ [(M : Int)], (cutAt c l k).2 ++ [(nm, up, x, y, t, f)])) := hE2
          have HM : Hid ((cutAt c l k).2.length = M) := hM
          rw [hM]
          clear hE hE2 hB hon hsu hM
          repeat (first
            | (go_at_call 61; refine (HH.out _ (hv.kept ((k1.trans HK.out).alloc _))).mono ?_; rintro e w2 ⟨rfl, k2⟩; rw [hcb]
               have k2' : Kept wr w2 := ((But.refl _ _ wr).alloc _).trans k2
               have L2 := HL.out.kept k2'
               have N2 := (Loc.new wr [.string nm, .int .i64 up, .int .i64 x, .int .i64 y, .int .i64 t, .bool f] 36).kept k2
               have ck := L2.cell k (v := .int .i64 ak) (by simp [hak])
               have zk := L2.frozen k
               have n0 := N2.cell 0 rfl
               have n1 := N2.cell 1 rfl
               have n2 := N2.cell 2 rfl
               have n3 := N2.cell 3 rfl
               have n4 := N2.cell 4 rfl
               have n5 := N2.cell 5 rfl
               have zn := N2.frozen 1
               have hw2 := k2'.size
               have hw3 := N2.lt
               have hne1 : w1.heap.size ≠ wr.heap.size := by omega
               have hne2 : wr.heap.size ≠ w1.heap.size := by omega
               have HL2 : Hid (Loc w2 w1.heap.size (A.map (Value.int .i64))) := L2
               have HK2 : Hid (Kept wr w2) := k2'
               clear k2 k2' L2 N2
               dsimp only)
            | (at_builtin; refine forgetL (fun w' => w' = (w2.setCell ⟨w1.heap.size, k, none⟩ (.int .i64 (M : Int))).alloc (.cells #[.string nm, .int .i64 up, .int .i64 x, .int .i64 y, .int .i64 t, .bool f] 36)) rfl ?_)
            | go_values | go_skip | go_guarded | go_step | go_upon)
          rintro W7 rfl
          have hO0 := own_kept HO.out HK2.out
          rw [HM.out] at hO0
          have hrow := fun g hg => own_lt hO0 (g := g) hg
          have hrow2 := fun g hg => own_lt HO.out (g := g) (by rw [HM.out]; exact hg)
          have hO7 := own_but hO0 (((But.refl w1.heap.size (w1.heap.size + 1) w2).setCell (p := ⟨w1.heap.size, k, none⟩) (Nat.le_refl _) (Nat.lt_succ_self _) (.int .i64 (M : Int))).alloc (.cells #[.string nm, .int .i64 up, .int .i64 x, .int .i64 y, .int .i64 t, .bool f] 36)) (fun g hg => .inr (hrow g hg).1)
          refine wpList_append_own _ rfl _ _ 29 rfl (w1.heap.size + 1) 36 i0 (.agg #[.string ByteArray.empty, .int .i64 0, .int .i64 0, .int .i64 0, .int .i64 0, .bool false]) 6 56 Try.underlying29 hi0 hz0 hz1 hz2 rfl (by decide) _ _ _ rfl hO7 ⟨_, 0, none⟩ 1 1 (nodeC (nm, up, x, y, t, f)) rfl rfl (news_node _ _ _ (alloc_new' _ _ _ (by simp [World.setCell]))) (one_node _) (by unfold maxLen; omega) (by omega) (by simp; omega) ?_
          intro v3 w3 hown hgrow _
          obtain ⟨ao5, cap5, hf5, _⟩ := own_form hown
          subst hf5
          have hnb : (Value.slice ao2 M cap2).ownBlock ≠ some w1.heap.size := fun h => by have := (hrow _ h).1; omega
          have L3 : Loc w3 w1.heap.size ((A.map (Value.int .i64)).set k (.int .i64 (M : Int))) := ((HL2.out.set k _).alloc _).grown hgrow hnb
          rw [show (A.map (Value.int .i64)).set k (.int .i64 (M : Int)) = (A.set k (M : Int)).map (Value.int .i64) from List.map_set.symm] at L3
          have K3 : Kept w1 w3 := (((HK.out.trans HK2.out).setNew (p := ⟨w1.heap.size, k, none⟩) (Nat.le_refl _) _).alloc _).grown hgrow (fun g hg => .inl (by have := (hrow g hg).1; omega))
          have HL3 : Hid (Loc w3 w1.heap.size ((A.set k (M : Int)).map (Value.int .i64))) := L3
          have HK3 : Hid (Kept w1 w3) := K3
          have HO3 : Hid (w3.ownsRow (w1.heap.size + 1) 36 6 (.slice ao5 (M + 1) cap5) (M + 1) ((cutAt c l k).2.flatMap nodeC ++ nodeC (nm, up, x, y, t, f))) := hown
          clear hgrow hown L3 K3 hO7 hO0
          repeat (first | go_values | go_skip | go_guarded | go_step | go_upon)
          refine ⟨⟨k + 1, ao5, cap5, A.set k (M : Int), hlt, by go_num, ?_, ?_, by rw [List.length_set]; exact hA, ?_, HL3.out, HK3.out⟩, by simp [intOf]; omega⟩
          · rw [HE.out]; simp [HM.out]
          · rw [HE.out]
            simp only [List.length_append, List.length_singleton, List.flatMap_append, List.flatMap_cons, List.flatMap_nil, List.append_nil, HM.out]
            exact HO3.out
          · intro j z hj hz h0
            rw [HE.out] at hz
            by_cases hjk : j < k
            · rw [List.getElem?_append_left (by omega)] at hz
              rw [List.getElem?_set, if_neg (by omega)]
              exact HAn.out j z hjk hz h0
            · obtain rfl : j = k := by omega
              rw [List.getElem?_append_right (by omega), hln, Nat.sub_self] at hz
              simp at hz
              subst hz
              rw [List.getElem?_set, if_pos rfl, if_pos (by omega)]
        · have hm0 : (up == -1) = false := by simpa using hm
          obtain ⟨u, rfl⟩ : ∃ u : Nat, up = u := ⟨up.toNat, by omega⟩
          have huk : u < k := by omega
          obtain ⟨z, hz⟩ : ∃ z, (cutAt c l k).1[u]? = some z := ⟨_, List.getElem?_eq_getElem (by omega)⟩
          have hz0' : 0 ≤ z := by
            simp [cutB, hz] at hB
            omega
          have hAu := HAn.out u z huk hz hz0'
          have huk' : u ≠ k := by omega
          have huk2 : k ≠ u := by omega
          have hE2 : cutAt c l (k + 1) = ((cutAt c l k).1 ++ [((cutAt c l k).2.length : Int)], (cutAt c l k).2 ++ [(nm, z, x, y, t, f)]) := by
            rw [hE, cutN]
            simp [hz]
          clear hz
          obtain ⟨M, hM⟩ : ∃ M, (cutAt c l k).2.length = M := ⟨_, rfl⟩
          rw [hM] at hol hE2
          have HE : Hid (cutAt c l (k + 1) = ((cutAt c l k).1 ++ [(M : Int)], (cutAt c l k).2 ++ [(nm, z, x, y, t, f)])) := hE2
          have HM : Hid ((cutAt c l k).2.length = M) := hM
          rw [hM]
          clear hE hE2 hB hon hsu hM
          repeat (first
            | (go_at_call 61; refine (HH.out _ (hv.kept ((k1.trans HK.out).alloc _))).mono ?_; rintro e w2 ⟨rfl, k2⟩; rw [hcb]
               have k2' : Kept wr w2 := ((But.refl _ _ wr).alloc _).trans k2
               have L2 := HL.out.kept k2'
               have N2 := (Loc.new wr [.string nm, .int .i64 (u : Int), .int .i64 x, .int .i64 y, .int .i64 t, .bool f] 36).kept k2
               have ck := L2.cell k (v := .int .i64 ak) (by simp [hak])
               have cu := L2.cell u (v := .int .i64 z) (by simp [hAu])
               have zk := L2.frozen k
               have n0 := N2.cell 0 rfl
               have n1 := N2.cell 1 rfl
               have n2 := N2.cell 2 rfl
               have n3 := N2.cell 3 rfl
               have n4 := N2.cell 4 rfl
               have n5 := N2.cell 5 rfl
               have zn := N2.frozen 1
               have hw2 := k2'.size
               have hw3 := N2.lt
               have hne1 : w1.heap.size ≠ wr.heap.size := by omega
               have hne2 : wr.heap.size ≠ w1.heap.size := by omega
               have HL2 : Hid (Loc w2 w1.heap.size (A.map (Value.int .i64))) := L2
               have HK2 : Hid (Kept wr w2) := k2'
               clear k2 k2' L2 N2
               dsimp only)
            | (at_builtin; refine forgetL (fun w' => w' = ((w2.setCell ⟨w1.heap.size, k, none⟩ (.int .i64 (M : Int))).setCell ⟨wr.heap.size, 1, none⟩ (.int .i64 z)).alloc (.cells #[.string nm, .int .i64 z, .int .i64 x, .int .i64 y, .int .i64 t, .bool f] 36)) rfl ?_)
            | go_values | go_skip | go_guarded | go_step | go_upon)
          rintro W7 rfl
          have hO0 := own_kept HO.out HK2.out
          rw [HM.out] at hO0
          have hrow := fun g hg => own_lt hO0 (g := g) hg
          have hrow2 := fun g hg => own_lt HO.out (g := g) (by rw [HM.out]; exact hg)
          have hO6 := own_but hO0 ((But.refl w1.heap.size (w1.heap.size + 1) w2).setCell (p := ⟨w1.heap.size, k, none⟩) (Nat.le_refl _) (Nat.lt_succ_self _) (.int .i64 (M : Int))) (fun g hg => .inr (hrow g hg).1)
          have hO7 := own_but hO6 (((But.refl wr.heap.size (wr.heap.size + 1) _).setCell (p := ⟨wr.heap.size, 1, none⟩) (Nat.le_refl _) (Nat.lt_succ_self _) (.int .i64 z)).alloc (.cells #[.string nm, .int .i64 z, .int .i64 x, .int .i64 y, .int .i64 t, .bool f] 36)) (fun g hg => .inl (hrow2 g hg).2)
          clear hO6
          refine wpList_append_own _ rfl _ _ 29 rfl (w1.heap.size + 1) 36 i0 (.agg #[.string ByteArray.empty, .int .i64 0, .int .i64 0, .int .i64 0, .int .i64 0, .bool false]) 6 56 Try.underlying29 hi0 hz0 hz1 hz2 rfl (by decide) _ _ _ rfl hO7 ⟨_, 0, none⟩ 1 1 (nodeC (nm, z, x, y, t, f)) rfl rfl (news_node _ _ _ (alloc_new' _ _ _ (by simp [World.setCell]))) (one_node _) (by unfold maxLen; omega) (by omega) (by simp; omega) ?_
          intro v3 w3 hown hgrow _
          obtain ⟨ao5, cap5, hf5, _⟩ := own_form hown
          subst hf5
          have hnb : (Value.slice ao2 M cap2).ownBlock ≠ some w1.heap.size := fun h => by have := (hrow _ h).1; omega
          have L3 : Loc w3 w1.heap.size ((A.map (Value.int .i64)).set k (.int .i64 (M : Int))) := (((HL2.out.set k _).other (b' := wr.heap.size) (j := 1) hne1 _).alloc _).grown hgrow hnb
          rw [show (A.map (Value.int .i64)).set k (.int .i64 (M : Int)) = (A.set k (M : Int)).map (Value.int .i64) from List.map_set.symm] at L3
          have K3 : Kept w1 w3 := ((((HK.out.trans HK2.out).setNew (p := ⟨w1.heap.size, k, none⟩) (Nat.le_refl _) _).setNew (p := ⟨wr.heap.size, 1, none⟩) (by simp; omega) _).alloc _).grown hgrow (fun g hg => .inl (by have := (hrow g hg).1; omega))
          have HL3 : Hid (Loc w3 w1.heap.size ((A.set k (M : Int)).map (Value.int .i64))) := L3
          have HK3 : Hid (Kept w1 w3) := K3
          have HO3 : Hid (w3.ownsRow (w1.heap.size + 1) 36 6 (.slice ao5 (M + 1) cap5) (M + 1) ((cutAt c l k).2.flatMap nodeC ++ nodeC (nm, z, x, y, t, f))) := hown
          clear hgrow hown L3 K3 hO7 hO0
          repeat (first | go_values | go_skip | go_guarded | go_step | go_upon)
          refine ⟨⟨k + 1, ao5, cap5, A.set k (M : Int), hlt, by go_num, ?_, ?_, by rw [List.length_set]; exact hA, ?_, HL3.out, HK3.out⟩, by simp [intOf]; omega⟩
          · rw [HE.out]; simp [HM.out]
          · rw [HE.out]
            simp only [List.length_append, List.length_singleton, List.flatMap_append, List.flatMap_cons, List.flatMap_nil, List.append_nil, HM.out]
            exact HO3.out
          · intro j z hj hz h0
            rw [HE.out] at hz
            by_cases hjk : j < k
            · rw [List.getElem?_append_left (by omega)] at hz
              rw [List.getElem?_set, if_neg (by omega)]
              exact HAn.out j z hjk hz h0
            · obtain rfl : j = k := by omega
              rw [List.getElem?_append_right (by omega), hln, Nat.sub_self] at hz
              simp at hz
              subst hz
              rw [List.getElem?_set, if_pos rfl, if_pos (by omega)]
    · have hke : k = l.length := by omega
      subst hke
      have HO : Hid _ := hown
      have HK : Hid (Kept w wr) := k1.trans hkp
      clear hown hkp hL hAn
      repeat (first | go_values | go_skip | go_guarded | go_step | go_upon)
      refine bodyPost_ret (v := .tuple #[.slice ao2 (cutAt c l l.length).2.length cap2, .bool true]) (by simp [results, Try.results32, go_sem]) rfl ?_
      exact ⟨_, rfl, RowO.top (own_base HO.out (by omega)), HK.out⟩
end Go.Proofs.Ytcljppnakmeldaa

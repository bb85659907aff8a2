/-
  A node's path: the names from the topmost one down, in the specification and in the program.
-/
import Derived.Test.YtcljppnakmeldaaSpotOf
namespace Go.Proofs.Ytcljppnakmeldaa
open Go.ChangeShapes Go.WideShapes Go.ChangeAt Go.RowKit

/-- The names with a stroke between. -/
def pathB (ns : List ByteArray) : ByteArray := ⟨(Lib.join (ns.map (·.data.toList)) [47]).toArray⟩
theorem join_snoc (A : List (List UInt8)) (x sep : List UInt8) (h : A ≠ []) : Lib.join (A ++ [x]) sep = Lib.join A sep ++ (sep ++ x) := by
  cases A with
  | nil => exact absurd rfl h
  | cons a r => simp [Lib.join_cons, Lib.joinTail]
theorem pathB_one (x : ByteArray) : pathB [x] = x := by simp [pathB, Lib.join_one]
theorem pathB_snoc (ns : List ByteArray) (x : ByteArray) (h : ns ≠ []) : pathB (ns ++ [x]) = pathB ns ++ ⟨#[47]⟩ ++ x := by
  unfold pathB
  rw [List.map_append, List.map_cons, List.map_nil, join_snoc _ _ _ (by simpa using h)]
  apply ByteArray.ext
  simp
def namesOf (R : List NodeD) : List ByteArray := R.map (·.1)
theorem info9 : (Try.prog.info? 9).map (fun i => (i.zero, i.size, i.bytes)) = some (some (.string ByteArray.empty), 1, 16) := by kernel_rfl
theorem news1 (w : World) (g : Nat) (a : Value) (t : TypeId) (hg : g = w.heap.size) : ∀ j u, ([a] : List Value)[j]? = some u → (w.alloc (.cells #[a] t)).cell? ((⟨g, 0, none⟩ : Addr).add j) = some u := by
  intro j u hu
  subst hg
  rw [Go.WideShapes.add_plain, Nat.zero_add]
  exact (Loc.new w [a] t).cell j hu
theorem one1 (x : ByteArray) : ∀ u ∈ ([.string x] : List Value), u.oneCell' = true := by
  intro u hu
  simp at hu
  subst hu
  rfl
theorem bytes_len (a : ByteArray) : a.data.toList.length = a.size := by rw [Array.length_toList]; rfl
theorem pathB_size (ns : List ByteArray) (h : ∀ x ∈ ns, x.size ≤ 20) : (pathB ns).size ≤ 21 * ns.length := by
  have key : ∀ (r : List ByteArray), (∀ x ∈ r, x.size ≤ 20) → (Lib.joinTail [47] (r.map (·.data.toList))).length ≤ 21 * r.length := by
    intro r
    induction r with
    | nil => intro _; simp [Lib.joinTail]
    | cons a r ih =>
      intro hr
      have h1 := hr a (by simp)
      have h2 := ih (fun x hx => hr x (by simp [hx]))
      have h4 : Lib.joinTail [47] ((a :: r).map (·.data.toList)) = ([47] ++ a.data.toList) ++ Lib.joinTail [47] (r.map (·.data.toList)) := rfl
      rw [h4, List.length_append, List.length_append, bytes_len, List.length_cons, List.length_cons, List.length_nil]
      omega
  have hsz : (pathB ns).size = (Lib.join (ns.map (·.data.toList)) [47]).length := by
    show (Lib.join (ns.map (·.data.toList)) [47]).toArray.size = _
    rw [List.size_toArray]
  rw [hsz]
  cases ns with
  | nil => rw [List.map_nil, Lib.join_nil]; simp
  | cons a r =>
    have h1 := h a (by simp)
    have h2 := key r (fun x hx => h x (by simp [hx]))
    rw [List.map_cons, Lib.join_cons, List.length_append, bytes_len, List.length_cons]
    omega

set_option maxRecDepth 100000 in
set_option maxHeartbeats 4000000 in
theorem l4Path (l : List NodeD) (v : Value) : ∀ (xs : List UpE) (a : Int) (w : World), Chain l a xs → xs ≠ [] → NodeAt w v l → (∀ x ∈ xs, x.2.1.size ≤ 20) → xs.length ≤ 1048576 →
    Calls Try.prog 62 #[v, .int .i64 a] w fun e w' => e = .returned (.string (pathB (namesOf (rows xs).reverse))) ∧ Kept w w'
  | [], _, _, _, h, _, _, _ => absurd rfl h
  | x :: r, a, w, hch, _, hv, hg, hm => by
    obtain ⟨ao, cap, hsl⟩ := row_nil hv
    subst hsl
    obtain ⟨i, ⟨nm, up, X, Y, t, f⟩, rfl, hi, rfl, hlt, hr⟩ := hch
    have hil : i < l.length := (List.getElem?_eq_some_iff.1 hi).1
    obtain ⟨b, o, cap1, e, c0, c1, c2, c3, c4, c5⟩ := node_get hv hi
    cases e
    dsimp only at hlt hr c0 c1 c2 c3 c4 c5
    have hb : b < w.heap.size := World.block_lt_of_cell? w _ c0
    have hnm : nm.size ≤ 20 := hg _ List.mem_cons_self
    cases r with
    | nil =>
      have hup : up = -1 := hr
      have hu0 : up < 0 := by omega
      clear hr hup
      go_enter Try.func62, Try.ntmps62
      repeat (first | go_values | go_skip | go_guarded | go_step | go_upon)
      try go_quiet (fail)
      repeat (first | go_values | go_skip | go_guarded | go_step | go_upon)
      go_ret
      refine ⟨?_, But.refl _ _ _⟩
      simp [rows, namesOf, pathB_one]
    | cons y q =>
      have hgr : ∀ z ∈ y :: q, z.2.1.size ≤ 20 := fun z hz => hg z (List.mem_cons_of_mem _ hz)
      have ih := fun u hu => l4Path l (.slice (some ⟨b, o, none⟩) l.length cap) (y :: q) up u hr (by simp) hu hgr (by simp at hm ⊢; omega)
      have hup : 0 ≤ up := by obtain ⟨j, m, rfl, _⟩ := hr; omega
      have hu0 : decide (up < 0) = false := by simp; omega
      have hps := pathB_size (namesOf (rows (y :: q)).reverse) (by
        intro z hz
        obtain ⟨m, hm', rfl⟩ := List.mem_map.1 hz
        obtain ⟨e, he, rfl⟩ := List.mem_map.1 (List.mem_reverse.1 hm')
        exact hgr e he)
      have hpl : (namesOf (rows (y :: q)).reverse).length = (y :: q).length := by simp [namesOf, rows]
      have hsnoc : pathB (namesOf (rows (((i : Int), (nm, up, X, Y, t, f)) :: y :: q)).reverse) = pathB (namesOf (rows (y :: q)).reverse) ++ ⟨#[47]⟩ ++ nm := by
        rw [← pathB_snoc _ _ (by simp [namesOf, rows])]
        simp [namesOf, rows]
      rw [hpl] at hps
      have hps2 : (pathB (namesOf (rows (y :: q)).reverse)).size ≤ 22020096 := by simp at hm hps; omega
      obtain ⟨P, hP⟩ : ∃ P, pathB (namesOf (rows (y :: q)).reverse) = P := ⟨_, rfl⟩
      rw [hP] at hps2 hsnoc
      have HI : Hid (∀ u, NodeAt u (.slice (some ⟨b, o, none⟩) l.length cap) l → Calls Try.prog 62 #[.slice (some ⟨b, o, none⟩) l.length cap, .int .i64 up] u fun e w' => e = .returned (.string P) ∧ Kept u w') := fun u hu => by rw [← hP]; exact ih u hu
      have HN : Hid _ := hsnoc
      have hs1 : ¬ 9223372036854775807 < P.size + 1 := by omega
      have hs2 : ¬ 9223372036854775807 < P.size + 1 + nm.size := by omega
      clear ih hsnoc hps hpl hP hr hgr
      go_enter Try.func62, Try.ntmps62
      repeat (first | go_values | go_skip | go_guarded | go_step | go_upon)
      refine wp_region_kept (by kernel_rfl) (by kernel_rfl) ?_
      have hcc := KW.cell_eq w
      repeat (go_big_quiet_step (first | (go_at_call 62; exact kw_call (HI.out _ (hv.kept (KW.k _))))))
      refine wpQuiet_nil ?_
      rintro _ ⟨⟨w5, k5⟩, rfl⟩
      clear hcc
      repeat (first | go_values | go_skip | go_guarded | go_step | go_upon)
      go_ret
      refine ⟨?_, k5⟩
      rw [HN.out]
      rfl

set_option maxRecDepth 100000 in
set_option maxHeartbeats 4000000 in
theorem pathTo (l : List NodeD) (v : Value) (a : Int) (xs : List UpE) (hch : Chain l a xs) (w : World) (hv : NodeAt w v l) (hg : ∀ x ∈ xs, x.2.1.size ≤ 20) (hlen : xs.length ≤ 1048576) :
    Calls Try.prog 63 #[v, .int .i64 a] w fun e w' => e = .returned (.string (pathB (namesOf (rows xs).reverse))) ∧ Kept w w' := by
  obtain ⟨ao, cap, hsl⟩ := row_nil hv
  subst hsl
  go_enter Try.func63, Try.ntmps63
  repeat (first | go_values | go_skip | go_guarded | go_step | go_upon)
  go_at_call 70
  refine (downTo l _ a xs hch _ hv hlen).mono ?_
  rintro e w1 ⟨v1, rfl, hat, hfr, k1⟩
  obtain ⟨ao1, cap1, hsl⟩ := row_nil hat
  subst hsl
  obtain ⟨R, hR⟩ : ∃ R, (rows xs).reverse = R := ⟨_, rfl⟩
  have hRx : ∀ n ∈ R, n.1.size ≤ 20 := fun n hn => by
    rw [← hR] at hn
    obtain ⟨e, he, rfl⟩ := List.mem_map.1 (List.mem_reverse.1 hn)
    exact hg e he
  have hRl : R.length ≤ 1048576 := by rw [← hR]; simp [rows]; exact hlen
  rw [hR] at hat
  have HR : Hid ((rows xs).reverse = R ∧ ∀ n ∈ R, n.1.size ≤ 20) := ⟨hR, hRx⟩
  have hR' : (rows xs).reverse.length = R.length := by rw [hR]
  rw [hR']
  have hR2 : (rows xs).length = R.length := by rw [← hR]; simp
  clear hR hRx hR' hfr hch hg hlen
  obtain ⟨i0, hi, hz0, hz1, hz2⟩ := info_parts info9
  have hk1 := k1.size
  dsimp only
  repeat (first | go_values | go_skip | go_guarded | go_step | go_upon)
  go_loopw [5, 7, 12] (fun r _ i wr => ∃ (k : Nat) (ao2 : Option Addr) (cap2 : Nat), k ≤ R.length ∧ i = .int .i64 k ∧ r = .slice ao2 k cap2 ∧ wr.ownsRow w1.heap.size 9 1 (.slice ao2 k cap2) k ((namesOf (R.take k)).map Value.string) ∧ Kept w1 wr) (fun _ _ i _ => R.length - (intOf i).toNat)
  case atStart => exact ⟨0, none, 0, by omega, rfl, rfl, by simpa [namesOf] using World.ownsRow_nil _ _ _ _, But.refl _ _ _⟩
  case round =>
    obtain ⟨k, ao2, cap2, hk, rfl, rfl, hown, hkp⟩ := hrel
    by_cases hlt : k < R.length
    · obtain ⟨⟨nm, up, X, Y, t, f⟩, hp⟩ : ∃ p, R[k]? = some p := ⟨_, List.getElem?_eq_getElem hlt⟩
      obtain ⟨b, o, cap3, e, c0, c1, c2, c3, c4, c5⟩ := node_get (hat.kept hkp) hp
      cases e
      dsimp only at c0 c1 c2 c3 c4 c5
      have hT : namesOf (R.take (k + 1)) = namesOf (R.take k) ++ [nm] := by
        rw [take_snoc hp]
        simp [namesOf]
      have HT : Hid _ := hT
      clear hT
      have hwz := hkp.size
      have HO : Hid _ := hown
      have HK : Hid (Kept w1 wr) := hkp
      clear hown hkp hp
      repeat (first
        | (at_builtin; refine wpList_append_own _ rfl _ _ 92 rfl w1.heap.size 9 i0 (.string ByteArray.empty) 1 16 Try.underlying92 hi hz0 hz1 hz2 rfl (by decide) _ _ _ rfl (own_kept HO.out (((But.refl _ _ wr).alloc _).alloc _)) ⟨_, 0, none⟩ 1 1 [.string nm] rfl rfl (news1 _ _ _ _ (by simp)) (one1 _) (by unfold maxLen; omega) (by omega) (by simp; omega) ?_
           intro v' w2 hown' hgrow _
           obtain ⟨ao5, cap5, hf5, _⟩ := own_form hown'
           subst hf5
           have HK1 : Hid (Kept w1 w2) := ((HK.out.alloc _).alloc _).grown hgrow (by intro x hx; have := own_lt HO.out hx; omega)
           have HW : Hid _ := hown'
           clear hgrow hown')
        | go_values | go_skip | go_guarded | go_step | go_upon)
      refine ⟨⟨k + 1, ao5, cap5, hlt, by go_num, rfl, ?_, HK1.out⟩, by simp [intOf]; omega⟩
      rw [HT.out, List.map_append]
      exact HW.out
    · have hke : k = R.length := by omega
      subst hke
      rw [List.take_length] at hown
      have kz := k1.trans hkp
      by_cases hR0 : R = []
      · subst hR0
        repeat (first
          | (go_at_call 76; refine (Try.strings_Join_none _ _ _ _).mono ?_; rintro e w' ⟨rfl, rfl⟩; dsimp only)
          | go_values | go_skip | go_guarded | go_step | go_upon)
        go_ret
        refine ⟨?_, kz⟩
        rw [HR.out.1]
        rfl
      · have hnl : (namesOf R).length = R.length := by simp [namesOf]
        have hpos : 0 < R.length := List.length_pos_iff.2 hR0
        obtain ⟨g, rfl, hcap⟩ : ∃ g, ao2 = some ⟨g, 0, none⟩ ∧ R.length ≤ cap2 := by
          rcases hown.2 with ⟨hf, h0⟩ | ⟨g, cap4, cur, hf, _, _, h1, _⟩
          · omega
          · cases hf
            exact ⟨g, rfl, h1⟩
        have hps := pathB_size (namesOf R) (fun z hz => by
          obtain ⟨m, hm, rfl⟩ := List.mem_map.1 hz
          exact HR.out.2 m hm)
        have hsz : (pathB (namesOf R)).size = (Lib.join ((namesOf R).map (·.data.toList)) [47]).length := by
          show (Lib.join ((namesOf R).map (·.data.toList)) [47]).toArray.size = _
          rw [List.size_toArray]
        have hbk : g < wr.heap.size := (own_lt hown (g := g) rfl).2
        have hj := Try.strings_Join g 0 cap2 (namesOf R) ⟨#[47]⟩ wr (fun j x hx => by
          have hx' : ((namesOf R).map Value.string)[j]? = some (.string x) := by rw [List.getElem?_map, hx]; rfl
          obtain ⟨g', cap', e', _, hc, _⟩ := own_cell hown hx'
          cases e'
          simpa using hc) hbk (by rw [hnl]; omega) (by rw [hnl]; exact hcap) (by show (Lib.join ((namesOf R).map (·.data.toList)) [47]).length ≤ _; rw [← hsz]; rw [hnl] at hps; omega)
        rw [hnl] at hj
        have HJ : Hid (Calls Try.prog 76 _ _ _) := hj
        clear hj hsz hps hown
        repeat (first
          | (go_at_call 76; refine HJ.out.mono ?_; rintro e w' ⟨rfl, kb⟩; dsimp only)
          | go_values | go_skip | go_guarded | go_step | go_upon)
        go_ret
        refine ⟨?_, kz.trans (Below.keptOf kb)⟩
        rw [HR.out.1]
        rfl
end Go.Proofs.Ytcljppnakmeldaa

/-
  What l3Own and copyWorld answer: the same world, in memory of its own.
-/
import Derived.Test.YtajelalimiobeaaTo
namespace Go.Proofs.Ytajelalimiobeaa
open Go.ChangeShapes Go.WideShapes Go.ChangeAt Go.RowKit

theorem run_append_none {P : Program} (w : World) (t ty e : TypeId) (i : TypeInfo) (ht : P.underlying t = some (.slice e)) (hi : P.info? e = some i) (ao : Option Addr) (n cap c : Nat) (hn : n ≤ cap) :
    (Builtin.append_ #[t, t] ty #[.slice ao n cap, .slice none 0 c]).run P w = .ok (.slice ao n cap) w := by
  cases ao <;> simp [Builtin.append_, run_underlying ht, sizeOf, typeInfo, hi, Builtin.lenOf, Builtin.firstCells, loadCells, hn, storeCells]

theorem row_none {w : World} {n cap : Nat} {xs : List Value} (h : RowAt w (.slice none n cap) n xs) : xs = [] := by
  obtain ⟨ao, cap', e, hc⟩ := h
  cases e
  cases xs with
  | nil => rfl
  | cons x xs => obtain ⟨b, o, e, _⟩ := hc 0 x rfl; cases e
theorem parts_none {w : World} {n cap : Nat} {ps : List PD} (h : PartsAt w (.slice none n cap) ps) (hn : n = ps.length) : ps = [] := by
  subst hn
  have := row_none h
  cases ps with
  | nil => rfl
  | cons p ps => simp [partCells, pc] at this
theorem row_cells {w : World} {a : Addr} {n cap : Nat} {xs : List Value} (h : RowAt w (.slice (some a) n cap) n xs) : ∀ j u, xs[j]? = some u → w.cell? (a.add j) = some u := by
  obtain ⟨ao, cap', e, hc⟩ := h
  cases e
  intro j u hu
  obtain ⟨b, o, e, h1⟩ := hc j u hu
  cases e
  rw [Go.WideShapes.add_plain]
  exact h1
theorem pc_one (ps : List PD) : ∀ u ∈ partCells ps, u.oneCell' = true := by
  intro u hu
  obtain ⟨p, _, hp⟩ := List.mem_flatMap.1 hu
  simp [pc] at hp
  rcases hp with rfl | rfl | rfl <;> rfl
theorem pcells_len (ps : List PD) : (partCells ps).length = ps.length * 3 := flat_len 3 pc pc_len ps
theorem ecells_len (zs : List PE) : (entCells zs).length = zs.length * 2 := flat_len 2 ec ec_len zs

/-- An entity appended to a row of its own. -/
theorem EntsO.append {w w' : World} {lo hi : Nat} {v v' : Value} {zs : List PE} (h : EntsO w lo hi v zs) {z : PE} (hp : PartsO w lo hi z.2.1 z.2.2) (ha : ∀ (i : Nat) y, zs[i]? = some y → Ap y.2.1 z.2.1)
    (hown : w'.ownsRow lo 36 2 v' (zs.length + 1) (entCells zs ++ ec z)) (g : w.grownBy w' v.ownBlock) : EntsO w' lo w'.heap.size v' (zs ++ [z]) := by
  have hget : ∀ {i : Nat} {y : PE}, (zs ++ [z])[i]? = some y → (zs[i]? = some y) ∨ (i = zs.length ∧ y = z) := by
    intro i y hy
    by_cases hi : i < zs.length
    · rw [List.getElem?_append_left hi] at hy; exact .inl hy
    · rw [List.getElem?_append_right (by omega)] at hy
      have : i - zs.length = 0 := by
        rcases Nat.eq_zero_or_pos (i - zs.length) with h | h
        · exact h
        · rw [List.getElem?_eq_none (by simp; omega)] at hy; cases hy
      rw [this] at hy
      simp at hy
      exact .inr ⟨by omega, hy.symm⟩
  refine ⟨?_, fun i y hy => ?_, fun i j y y' hij hy hy' => ?_⟩
  · rw [show (zs ++ [z]).length = zs.length + 1 by simp, show entCells (zs ++ [z]) = entCells zs ++ ec z by simp [entCells]]
    exact RowO.top hown
  · rcases hget hy with hy | ⟨_, rfl⟩
    · exact ((h.parts i y hy).grown g (h.ap hy).symm).low
    · exact (hp.grown g (ap_types h.row hp (by decide)).symm).low
  · rcases hget hy with gy | ⟨e1, rfl⟩ <;> rcases hget hy' with gy' | ⟨e2, rfl⟩
    · exact h.each i j y y' hij gy gy'
    · exact ha i y gy
    · exact (ha j y' gy').symm
    · omega

/-- What one round of a copy comes to. -/
theorem copy_step {wr X w1 : World} {lo lo' : Nat} {v v' pv : Value} {ys : List PE} {z : PE} (hkX : Kept wr X) (ho : EntsO wr lo wr.heap.size v ys) (hp : PartsO X lo' X.heap.size pv z.2.2) (hlo : lo ≤ lo') (hlo' : wr.heap.size ≤ lo')
    (hown : w1.ownsRow lo 36 2 v' (ys.length + 1) (entCells ys ++ [.int .i64 z.1, pv])) (g : X.grownBy w1 v.ownBlock) :
    EntsO w1 lo w1.heap.size v' (ys ++ [(z.1, pv, z.2.2)]) ∧ (∀ b cs, Loc wr b cs → b < lo → Loc w1 b cs) ∧ (∀ w, Kept w wr → w.heap.size ≤ lo → Kept w w1) := by
  have hox := (ho.kept hkX).mono (Nat.le_refl lo) hkX.size
  refine ⟨hox.append (z := (z.1, pv, z.2.2)) (hp.mono hlo (Nat.le_refl _)) (fun i y hy => ap_low ((ho.parts i y hy).kept hkX) hp (.inl hlo')) hown g, fun b cs hb hlt => ?_, fun w hk hw => ?_⟩
  · refine (hb.kept hkX).grown g fun e => ?_
    have := own_lt ho.row.1 e
    omega
  · refine (hk.trans hkX).grown g fun k hk => .inl ?_
    have := own_lt ho.row.1 hk
    omega
theorem snoc_strip {zs ys : List PE} {k : Nat} {z : PE} {pv : Value} (hz : zs[k]? = some z) (h : ys.map strip = (zs.take k).map strip) : (ys ++ [(z.1, pv, z.2.2)]).map strip = (zs.take (k + 1)).map strip := by
  rw [take_snoc hz, List.map_append, List.map_append, h]
  rfl
theorem own_zero {w : World} {base : Nat} {v : Value} {n : Nat} {ps : List PD} (h : w.ownsRow base 89 3 v (0 + n) ([] ++ partCells ps)) (hn : n = ps.length) : PartsO w base w.heap.size v ps := by
  rw [Nat.zero_add, List.nil_append, hn] at h
  exact RowO.top h
theorem news2 (w : World) (g : Nat) (a b : Value) (t : TypeId) (hg : g = w.heap.size) : ∀ j u, ([a, b] : List Value)[j]? = some u → (w.alloc (.cells #[a, b] t)).cell? ((⟨g, 0, none⟩ : Addr).add j) = some u := by
  intro j u hu
  subst hg
  rw [Go.WideShapes.add_plain, Nat.zero_add]
  exact (Loc.new w [a, b] t).cell j hu
theorem one2 (x : Int) (ao : Option Addr) (n c : Nat) : ∀ u ∈ ([.int .i64 x, .slice ao n c] : List Value), u.oneCell' = true := by
  intro u hu
  simp at hu
  rcases hu with rfl | rfl <;> rfl

theorem made_zero (w : World) (b g : Nat) (hg : g = w.heap.size) (hb : b ≤ w.heap.size) : (w.alloc (.cells #[] 89)).ownsRow b 89 3 (.slice (some ⟨g, 0, none⟩) 0 0) 0 [] := by
  subst hg
  exact World.ownsRow_made w #[] 0 hb (by unfold maxLen; omega) rfl

set_option maxHeartbeats 4000000 in
theorem specOwn (D : WD) (v : Value) (w : World) (hv : WAt w v D) (hl : ecost D.2.2 ≤ 1048576) :
    Calls Try.prog 72 #[v] w fun e w' => ∃ v', e = .returned v' ∧ WO w' w.heap.size w'.heap.size v' D ∧ Kept w w' := by
  obtain ⟨ev, zs, rfl, he, hes⟩ := hv
  obtain ⟨ao, cap, hsl⟩ := row_nil he.1
  subst hsl
  have hzl : zs.length = D.2.2.length := by rw [← hes]; simp
  have hl1 : zs.length ≤ 1048576 := by unfold ecost at hl; omega
  have hl2 : ∀ z ∈ zs, z.2.2.length ≤ 1048576 := fun z hz => by
    obtain ⟨i, hi⟩ := List.mem_iff_getElem?.1 hz
    have := parts_le (l := D.2.2) (k := i) (e := strip z) (by rw [← hes, List.getElem?_map, hi]; rfl)
    unfold ecost at hl
    unfold pcost at this
    simp only [strip] at this
    omega
  have HE : Hid (zs.map strip = D.2.2) := hes
  clear hes hzl
  obtain ⟨i0, hi, hz0, hz1, hz2⟩ := info_parts info89
  obtain ⟨j0, hj, hy0, hy1, hy2⟩ := info_parts info36
  go_enter Try.func72, Try.ntmps72
  go_wp2
  go_loopw [3, 9] (fun l i wr => ∃ (k : Nat) (ao2 : Option Addr) (n2 cap2 : Nat) (ys : List PE), k ≤ zs.length ∧ i = .int .i64 k ∧ l = .slice ao2 n2 cap2 ∧ ys.length = k ∧ n2 = k ∧ ys.map strip = (zs.take k).map strip ∧ EntsO wr (w.heap.size + 2) wr.heap.size (.slice ao2 n2 cap2) ys ∧ Loc wr w.heap.size [.int .i64 D.1, .int .i64 D.2.1, .slice ao zs.length cap] ∧ Loc wr (w.heap.size + 1) [.int .i64 0, .int .i64 0, .slice none 0 0] ∧ Kept w wr) (fun l i _ => zs.length - (intOf i).toNat)
  case atStart =>
    refine ⟨0, none, 0, 0, [], by omega, rfl, rfl, rfl, rfl, by simp, ⟨⟨World.ownsRow_nil _ _ _ _, fun g hg => by simp [Value.ownBlock] at hg⟩, fun i z hz => by simp at hz, fun i j z z' _ hz => by simp at hz⟩, (Loc.new _ [.int .i64 D.1, .int .i64 D.2.1, .slice ao zs.length cap] 25).alloc _, ?_, ((But.refl _ _ _).alloc _).alloc _⟩
    have := Loc.new (w.alloc (.cells #[.int .i64 D.1, .int .i64 D.2.1, .slice ao zs.length cap] 25)) [.int .i64 0, .int .i64 0, .slice none 0 0] 25
    simpa using this
  case round =>
    obtain ⟨k, ao2, n2, cap2, ys, hk, rfl, rfl, hyl, hn2, hys, ho, L0, L1, hkp⟩ := hrel
    subst n2
    have HY : Hid (ys.length = k ∧ ys.map strip = (zs.take k).map strip) := ⟨hyl, hys⟩
    clear hyl hys
    by_cases hlt : k < zs.length
    · obtain ⟨z, hz⟩ : ∃ z, zs[k]? = some z := ⟨_, List.getElem?_eq_getElem hlt⟩
      obtain ⟨b, o, cap', ao1, n, cap'', e, ez, c0, c1, en, hpa⟩ := ents_get (he.kept hkp) hz
      cases e
      subst en
      have hpl := hl2 z (List.mem_of_getElem? hz)
      cases ao1 with
      | none =>
        have hpn := parts_none hpa rfl
        have happ := fun u => run_append_none (P := Try.prog) u 34 34 89 i0 Try.underlying34 hi (some ⟨wr.heap.size + 1, 0, none⟩) 0 0 cap'' (Nat.le_refl _)
        have hz0' : z.2.2.length = 0 := by rw [hpn]; rfl
        rw [hz0'] at c1
        have hor : wr.ownsRow (w.heap.size + 2) 36 2 (.slice ao2 k cap2) k (entCells ys) := by have := ho.row.1; rw [HY.out.1] at this; exact this
        have hbs : w.heap.size + 1 < wr.heap.size := L1.lt
        have HPN : Hid (z.2.2 = []) := hpn
        have HL0 : Hid _ := L0
        have HL1 : Hid _ := L1
        have HO : Hid _ := ho
        have HK : Hid _ := hkp
        clear hpn hz0' hz0 hz1 hz2 hpa hl2 L0 L1 ho hkp ez he hl
        go_wp2_with (first
          | (at_builtin; refine wpList_append_own _ rfl _ _ 23 rfl (w.heap.size + 2) 36 j0 (.agg #[.int .i64 0, .slice none 0 0]) 2 32 Try.underlying23 hj hy0 hy1 hy2 rfl (by decide) _ _ _ rfl (own_kept hor ((((But.refl _ _ wr).alloc _).alloc _).alloc _)) ⟨_, 0, none⟩ 1 1 [.int .i64 z.1, .slice (some ⟨wr.heap.size + 1, 0, none⟩) 0 0] rfl rfl (news2 _ _ _ _ _ (by simp)) (one2 _ _ _ _) (by unfold maxLen; omega) (by omega) (by simp; omega) ?_; intro v' w1 hown' hgrow _))
        have hst := copy_step (z := z) (lo' := wr.heap.size + 1) (pv := .slice (some ⟨wr.heap.size + 1, 0, none⟩) 0 0) ((((But.refl _ _ wr).alloc _).alloc _).alloc _) HO.out ?hpo (by omega) (by omega) (by rw [HY.out.1]; exact hown') hgrow
        case hpo =>
          rw [HPN.out]
          refine RowO.top (World.ownsRow.alloc ?_ _)
          have := World.ownsRow_made (base := wr.heap.size + 1) (e := 89) (size := 3) (wr.alloc (.cells #[.int .i64 z.1, .slice (some ⟨wr.heap.size + 1, 0, none⟩) 0 0] 36)) #[] 0 (by simp) (by unfold maxLen; omega) rfl
          simpa [partCells] using this
        obtain ⟨ho1, hL1, hK1⟩ := hst
        obtain ⟨ao5, cap5, rfl, _⟩ := own_form hown'
        refine ⟨⟨k + 1, ao5, k + 1, cap5, _, hlt, by go_num, rfl, by simp [HY.out.1], rfl, snoc_strip hz HY.out.2, ho1, hL1 _ _ HL0.out (by omega), hL1 _ _ HL1.out (by omega), hK1 w HK.out (by omega)⟩, by simp [intOf]; omega⟩
      | some a =>
        have hor : wr.ownsRow (w.heap.size + 2) 36 2 (.slice ao2 k cap2) k (entCells ys) := by have := ho.row.1; rw [HY.out.1] at this; exact this
        have hbs : w.heap.size + 1 < wr.heap.size := L1.lt
        have HL0 : Hid _ := L0
        have HL1 : Hid _ := L1
        have HO : Hid _ := ho
        have HK : Hid _ := hkp
        have HP : Hid _ := hpa
        clear hpa hl2 L0 L1 ho hkp ez he hl
        go_wp2_with (first
          | (at_builtin; refine wpList_append_own _ rfl _ _ 34 rfl (wr.heap.size + 1) 89 i0 (.agg #[.string ByteArray.empty, .int .i64 0, .int .i64 0]) 3 32 Try.underlying34 hi hz0 hz1 hz2 rfl (by decide) _ _ _ rfl (made_zero (wr.alloc (.cells #[.int .i64 z.1, .slice (some a) z.2.2.length cap''] 36)) (wr.heap.size + 1) (wr.heap.size + 1) (by simp) (by simp)) a z.2.2.length cap'' (partCells z.2.2) rfl (pcells_len _) (row_cells (HP.out.kept (((But.refl _ _ wr).alloc _).alloc _))) (pc_one _) (by unfold maxLen; omega) (by omega) (by simp) ?_
             intro v3 w3 hown3 hgrow3 _
             obtain ⟨ao3, cap3, hf3, _⟩ := own_form hown3
             subst hf3
             have LE := ((Loc.new wr [.int .i64 z.1, .slice (some a) z.2.2.length cap''] 36).alloc (.cells #[] 89)).grown hgrow3 (by simp [Value.ownBlock, Act.eval])
             have f0 := LE.cell 0 rfl
             have f1 := LE.cell 1 rfl
             have g1 := LE.frozen 1
             have HKX : Hid (Kept wr w3) := (((But.refl _ _ wr).alloc _).alloc _).grown hgrow3 (by intro x hx; left; simp [Value.ownBlock, Act.eval] at hx; omega)
             have hs3 : wr.heap.size ≤ w3.heap.size := HKX.out.size
             have HO3 : Hid _ := own_zero hown3 rfl
             clear hgrow3 hown3 LE)
          | (at_builtin; refine wpList_append_own _ rfl _ _ 23 rfl (w.heap.size + 2) 36 j0 (.agg #[.int .i64 0, .slice none 0 0]) 2 32 Try.underlying23 hj hy0 hy1 hy2 rfl (by decide) _ _ _ rfl (own_kept hor ((HKX.out.setNew (by simp) _).alloc _)) ⟨_, 0, none⟩ 1 1 [.int .i64 z.1, .slice ao3 z.2.2.length cap3] rfl rfl (news2 _ _ _ _ _ (by simp)) (one2 _ _ _ _) (by unfold maxLen; omega) (by omega) (by simp; omega) ?_; intro v' w1 hown' hgrow _))
        have hst := copy_step (z := z) (lo' := wr.heap.size + 1) (pv := .slice ao3 z.2.2.length cap3) ((HKX.out.setNew (by simp) _).alloc _) HO.out ?hpo (by omega) (by omega) (by rw [HY.out.1]; exact hown') hgrow
        case hpo =>
          have hpo : PartsO w3 (wr.heap.size + 1) w3.heap.size (.slice ao3 z.2.2.length cap3) z.2.2 := by
            have := HO3.out
            rw [Nat.zero_add] at this
            exact this
          have hB : But wr.heap.size (wr.heap.size + 1) w3 (w3.setCell ⟨wr.heap.size, 1, none⟩ (.slice ao3 z.2.2.length cap3)) := (But.refl _ _ w3).setCell (by simp) (by simp) _
          exact ((hpo.but hB (by omega)).kept ((But.refl _ _ _).alloc _)).low
        obtain ⟨ho1, hL1, hK1⟩ := hst
        obtain ⟨ao5, cap5, rfl, _⟩ := own_form hown'
        refine ⟨⟨k + 1, ao5, k + 1, cap5, _, hlt, by go_num, rfl, by simp [HY.out.1], rfl, snoc_strip hz HY.out.2, ho1, hL1 _ _ HL0.out (by omega), hL1 _ _ HL1.out (by omega), hK1 w HK.out (by omega)⟩, by simp [intOf]; omega⟩
    · have hke : k = zs.length := by omega
      subst hke
      have f0 := L0.cell 0 rfl
      have f1 := L0.cell 1 rfl
      have f2 := L0.cell 2 rfl
      have g2 := L0.frozen 2
      have e0 := L1.cell 0 rfl
      have e1 := L1.cell 1 rfl
      have e2 := L1.cell 2 rfl
      have q0 := L1.frozen 0
      have q1 := L1.frozen 1
      have q2 := L1.frozen 2
      have HO : Hid _ := ho
      have HK : Hid _ := hkp
      clear ho hkp L0 L1 he
      go_wp2
      have B : But w.heap.size (w.heap.size + 2) wr ((((wr.setCell ⟨w.heap.size, 2, none⟩ (.slice ao2 zs.length cap2)).setCell ⟨w.heap.size + 1, 0, none⟩ (.int .i64 D.1)).setCell ⟨w.heap.size + 1, 1, none⟩ (.int .i64 D.2.1)).setCell ⟨w.heap.size + 1, 2, none⟩ (.slice ao2 zs.length cap2)) :=
        ((((But.refl _ _ _).setCell (by simp) (by simp) _).setCell (by simp) (by simp) _).setCell (by simp) (by simp) _).setCell (by simp) (by simp) _
      refine bodyPost_ret (v := .agg #[.int .i64 D.1, .int .i64 D.2.1, .slice ao2 zs.length cap2]) (by simp [results, Try.results72, go_sem, e0, e1, e2]) rfl ?_
      refine ⟨_, rfl, ⟨_, ys, rfl, ((HO.out.but B (by omega)).mono (by omega) B.size).low, ?_⟩, HK.out.onto B (Nat.le_refl _)⟩
      rw [HY.out.2, List.take_length]
      exact HE.out
end Go.Proofs.Ytajelalimiobeaa

/-
  MakeOrder of the program.
-/
import Derived.Test.YtmoaihhllfkmiaaImk21
import Derived.Deep.RegionLaw
import Derived.Deep.Cut
namespace Go.Proofs.Ytmoaihhllfkmiaa
open Go.ChangeShapes Go.WideShapes Go.ChangeAt Go.RowKit

set_option maxRecDepth 100000
set_option linter.unusedVariables false
set_option linter.unusedSimpArgs false

set_option maxHeartbeats 4000000 in
theorem iixf (l : List AssetE) (X : List ByteArray) (v mv : Value) (bb : Nat) (w : World) (hv : AssetAt w v l) (hx : TxtAt w mv X) (hc : w.cell? ⟨bb, 0, none⟩ = some mv) (hn : l.length ≤ 1048576) (hs : ∀ d ∈ l, ASz d) (hX : X.length ≤ 1048576) :
    Calls Try.prog 36 #[v, .func (.func 37) #[] #[.pointer (some ⟨bb, 0, none⟩)]] w fun e w' => (∃ r : Int, e = .returned (.int .i64 r) ∧ ((∃ (k : Nat) (a : AssetE), r = k ∧ l[k]? = some a ∧ l.find? (readyB X) = some a) ∨ (r = -1 ∧ l.find? (readyB X) = none))) ∧ Kept w w' := by
  obtain ⟨ao, cap, hsl⟩ := row_nil hv.1
  subst hsl
  have HV : Hid (AssetAt w (.slice ao l.length cap) l) := hv
  have HS : Hid (∀ d ∈ l, ASz d) := hs
  have HX : Hid (TxtAt w mv X) := hx
  have HC : Hid (w.cell? ⟨bb, 0, none⟩ = some mv) := hc
  clear hv hs hx hc
  go_enter Try.func36, Try.ntmps36
  repeat (first | go_values | go_skip | go_guarded | go_step | go_upon)
  go_loopw [8] (fun i wr => ∃ (k : Nat), k ≤ l.length ∧ i = .int .i64 k ∧ Hid (∀ (j : Nat) (a : AssetE), j < k → l[j]? = some a → readyB X a = false) ∧ Kept w wr) (fun i _ => l.length - (intOf i).toNat)
  case atStart => exact ⟨0, by omega, rfl, fun j a hj => by omega, But.refl _ _ _⟩
  case round =>
    obtain ⟨k, hk, rfl, HB, hkp⟩ := hrel
    by_cases hlt : k < l.length
    · obtain ⟨d, hd⟩ : ∃ d, l[k]? = some d := ⟨_, List.getElem?_eq_getElem hlt⟩
      obtain ⟨b, o, cap1, e, c0, c1, c2, hpt, hpb⟩ := asset_get (HV.out.kept hkp) hd
      cases e
      have hsz := HS.out d (List.mem_of_getElem? hd)
      have HD : Hid (l[k]? = some d) := hd
      have HK : Hid (Kept w wr) := hkp
      obtain ⟨d0, ⟨d1, t1⟩, ⟨d2, t2⟩⟩ := d
      dsimp only at c0 c1 c2 hpt hpb hsz
      have AC : Hid (∀ W, Kept wr W → Calls Try.prog 37 #[.agg #[.string d0, d1, d2], .pointer (some ⟨bb, 0, none⟩)] W fun e w' => e = .returned (.bool (readyB X (d0, (d1, t1), (d2, t2)))) ∧ Kept W w') := fun W kk => iclo d0 d1 d2 t1 t2 X mv bb W (hpt.kept kk) (hpb.kept kk) (HX.out.kept (HK.out.trans kk)) (Kept.cell (HK.out.trans kk) HC.out) hsz.2.1 hX
      obtain ⟨a1, p1, hs1⟩ := row_nil hpt
      subst hs1
      obtain ⟨a2, p2, hs2⟩ := row_nil hpb
      subst hs2
      have z0 : (0 : Int) ≤ (k : Int) := by omega
      have z1 : (k : Int) < (l.length : Int) := by omega
      clear hd hkp hpt hpb hsz
      cases q : readyB X (d0, (.slice a1 t1.length p1, t1), (.slice a2 t2.length p2, t2)) with
      | true =>
        have HF : Hid (l.find? (readyB X) = some (d0, (.slice a1 t1.length p1, t1), (.slice a2 t2.length p2, t2))) := find_hit HB.out HD.out q
        rw [q] at AC
        clear q
        repeat (first | go_values | go_skip | go_guarded | go_step | go_upon)
        go_at_call 37
        refine (AC.out _ (But.refl _ _ _)).mono ?_
        rintro e w4 ⟨rfl, k4⟩
        have HK4 : Hid (Kept w w4) := HK.out.trans k4
        clear k4 c0 c1 c2
        dsimp only
        repeat (first | go_values | go_skip | go_guarded | go_step | go_upon)
        go_ret
        exact ⟨⟨_, rfl, .inl ⟨k, _, rfl, HD.out, HF.out⟩⟩, HK4.out⟩
      | false =>
        have HQ : Hid (readyB X (d0, (.slice a1 t1.length p1, t1), (.slice a2 t2.length p2, t2)) = false) := q
        rw [q] at AC
        clear q
        repeat (first | go_values | go_skip | go_guarded | go_step | go_upon)
        go_at_call 37
        refine (AC.out _ (But.refl _ _ _)).mono ?_
        rintro e w4 ⟨rfl, k4⟩
        have HK4 : Hid (Kept w w4) := HK.out.trans k4
        clear k4 c0 c1 c2
        dsimp only
        repeat (first | go_values | go_skip | go_guarded | go_step | go_upon)
        refine ⟨⟨k + 1, hlt, by go_num, fun j a hj ha => ?_, HK4.out⟩, by simp [intOf]; omega⟩
        by_cases e : j = k
        · subst e
          rw [HD.out] at ha
          cases ha
          exact HQ.out
        · exact HB.out j a (by omega) ha
    · have hke : k = l.length := by omega
      subst hke
      have HF : Hid (l.find? (readyB X) = none) := find_non fun j b hb => HB.out j b (List.getElem?_eq_some_iff.1 hb).1 hb
      repeat (first | go_values | go_skip | go_guarded | go_step | go_upon)
      go_ret
      exact ⟨⟨_, rfl, .inr ⟨rfl, HF.out⟩⟩, hkp⟩
theorem step_app1_txt {ops : Array Oper} {o : Oper} {a : Act} {w : World} {K : Act → World → Prop} {Q : Exit → Act → World → Prop} {E : Prop}
    (hg : o.guard = none) (s x : Operand) (hop : o.op = .call { callee := .builtin .append, args := #[s, x], argTypes := #[25, 25] }) {lo hi : Nat} {v : Value} {ps : List TxtD} (hs : a.eval s = v) (hown : TxtO w lo hi v ps)
    {b : Nat} (p : TxtD) (hx : a.eval x = .slice (some ⟨b, 0, none⟩) 1 1) (hL : Loc w b (txtC p)) (hb : ps.length + 1 ≤ 100000000) (hlo : lo ≤ w.heap.size)
    (h : ∀ v' w', TxtO w' lo w'.heap.size v' (ps ++ [p]) → But (blo v) (bhi v) w w' → K (a.put o.dst v') w') : if Region.wanted o (yielded ops a.tmps) = true then Oper.wp Try.prog o a w K Q else E := by
  have hw : Region.wanted o (yielded ops a.tmps) = true := by simp [Region.wanted, hg]
  rw [if_pos hw]
  obtain ⟨i0, hi0, hz0, hz1, hz2⟩ := info_parts info_txtA
  obtain ⟨v', w', hr, h1, h2, -, -⟩ := run_append_own_at (P := Try.prog) w lo 25 o.type 9 i0 (.string ByteArray.empty) 1 16 Try.underlying25 hi0 hz0 hz1 hz2 rfl (by decide) v ps.length (ps.flatMap txtC) hown.1 ⟨b, 0, none⟩ 1 1 (txtC p) (txtC_len p) (news1 hL) (fun u hu => ones_txt [p] u (by simpa using hu)) (by unfold maxLen; omega) (by omega) hlo
  refine Lib.wp_append_run w s x 25 25 hop _ _ hs hx _ _ hr (h v' w' ?_ ?_)
  · unfold TxtO
    rw [List.length_append, List.flatMap_append]
    simpa using RowO.top h1
  · refine (But.refl _ _ w).grown h2 (fun g hg => .inr ?_)
    unfold blo bhi
    rw [hg]
    simp
theorem ord_cut {l : List AssetE} {i : Nat} (hi : i < l.length) (hl : (ordN l i).length = i) (h : l.find? (readyB (ordN l i)) = none) : ¬ (ordL l).length = l.length := by
  have h1 := ord_stop h (l.length - i)
  rw [show i + (l.length - i) = l.length by omega] at h1
  show ¬ (ordN l l.length).length = l.length
  rw [h1, hl]
  omega
set_option maxHeartbeats 8000000 in
theorem imo (l : List AssetE) (v : Value) (w : World) (hv : AssetAt w v l) (hn : l.length ≤ 1048576) (hs : ∀ d ∈ l, ASz d) :
    Calls Try.prog 10 #[v] w fun e w' => ∃ v', e = .returned (.tuple #[v', .bool (decide (AssetsP l))]) ∧ TxtO w' w.heap.size w'.heap.size v' (if AssetsP l then ordL l else []) ∧ Kept w w' := by
  obtain ⟨ao, cap, hsl⟩ := row_nil hv.1
  subst hsl
  have HV : Hid (AssetAt w (.slice ao l.length cap) l) := hv
  have HS : Hid (∀ d ∈ l, ASz d) := hs
  have AG : Hid (Calls Try.prog 35 #[.slice ao l.length cap] w fun e w' => e = .returned (.bool (decide (EachP l))) ∧ Kept w w') := igea l _ w hv hn hs
  clear hv hs
  by_cases hE : EachP l
  case neg =>
    have hnp : ¬ AssetsP l := fun h => hE h.1
    rw [if_neg hnp, decide_eq_false hnp]
    rw [decide_eq_false hE] at AG
    clear hE hnp
    go_enter Try.func10, Try.ntmps10
    repeat (first | go_values | go_skip | go_guarded | go_step | go_upon)
    go_at_call 35
    refine AG.out.mono ?_
    rintro e w1 ⟨rfl, k1⟩
    dsimp only
    repeat (first | go_values | go_skip | go_guarded | go_step | go_upon)
    go_ret2
    exact ⟨_, rfl, nil_txt _ _ _, k1⟩
  rw [decide_eq_true hE] at AG
  have hl30 : l.length ≤ 30 := by have := hE.2.1; rwa [namesA_len] at this
  have HE : Hid (EachP l) := hE
  have NO : Hid (¬ (ordL l).length = l.length → (if AssetsP l then ordL l else []) = [] ∧ decide (AssetsP l) = false) := fun h => ⟨if_neg fun h' => h h'.2, decide_eq_false fun h' => h h'.2⟩
  have YES : Hid ((ordL l).length = l.length → (if AssetsP l then ordL l else []) = ordL l ∧ decide (AssetsP l) = true) := fun h => ⟨if_pos ⟨hE, h⟩, decide_eq_true ⟨hE, h⟩⟩
  generalize (if AssetsP l then ordL l else []) = RL at *
  generalize decide (AssetsP l) = RB at *
  clear hE
  go_enter Try.func10, Try.ntmps10
  repeat (first | go_values | go_skip | go_guarded | go_step | go_upon)
  go_at_call 35
  refine AG.out.mono ?_
  rintro e w1 ⟨rfl, k1⟩
  have HK1 : Hid (Kept w w1) := k1
  clear k1 AG
  dsimp only
  repeat (first | go_values | go_skip | go_guarded | go_step | go_upon)
  obtain ⟨bb, hbb⟩ : ∃ bb, w1.heap.size = bb := ⟨_, rfl⟩
  have hbw : w.heap.size ≤ bb := by rw [← hbb]; exact HK1.out.size
  have L0 := Loc.new w1 [.slice none 0 0] 25
  rw [hbb] at L0 ⊢
  go_loopw [11] (fun i wr => ∃ (k : Nat) (mv : Value), k ≤ l.length ∧ i = .int .i64 k ∧ Hid ((ordN l k).length = k) ∧ Loc wr bb [mv] ∧ TxtO wr (bb + 1) wr.heap.size mv (ordN l k) ∧ Kept w wr) (fun i _ => l.length - (intOf i).toNat)
  case atStart => exact ⟨0, .slice none 0 0, by omega, rfl, rfl, L0, nil_txt _ _ _, HK1.out.alloc _⟩
  case round =>
    obtain ⟨k, mv, hk, rfl, HLN, hL, ho, hkp⟩ := hrel
    obtain ⟨ar, cr, hf⟩ := ho.form
    subst hf
    obtain ⟨X, hX⟩ : ∃ X, ordN l k = X := ⟨_, rfl⟩
    rw [hX] at ho hL HLN
    have HX : Hid (ordN l k = X) := hX
    have HO : Hid (TxtO wr (bb + 1) wr.heap.size (.slice ar X.length cr) X) := ho
    have HL : Hid (Loc wr bb [.slice ar X.length cr]) := hL
    have HK : Hid (Kept w wr) := hkp
    have hXl : X.length ≤ 1048576 := by have := HLN.out; omega
    have x0 := hL.cell 0 rfl
    have xl := hL.lt
    clear hX ho hL hkp L0 hbb
    by_cases hlt : k < l.length
    · have AF : Hid (∀ W, Kept wr W → Calls Try.prog 36 #[.slice ao l.length cap, .func (.func 37) #[] #[.pointer (some ⟨bb, 0, none⟩)]] W fun e w' => (∃ r : Int, e = .returned (.int .i64 r) ∧ ((∃ (k : Nat) (a : AssetE), r = k ∧ l[k]? = some a ∧ l.find? (readyB X) = some a) ∨ (r = -1 ∧ l.find? (readyB X) = none))) ∧ Kept W w') := fun W kk => iixf l X _ _ bb W (HV.out.kept (HK.out.trans kk)) (HO.out.at.kept kk) (Kept.cell kk (HL.out.cell 0 rfl)) hn HS.out hXl
      have hmf : ∀ (fn : Fn) (first cap : Array Value) (w : World), (Instr.makeFunc fn first cap).run Try.prog w = .ok (.func fn first cap) w := fun _ _ _ _ => rfl
      clear x0
      repeat (first | go_values | go_skip | go_guarded | go_step | go_upon)
      go_at_call 36
      refine (AF.out _ (But.refl _ _ _)).mono ?_
      rintro e w2 ⟨⟨r, rfl, hr⟩, k2⟩
      have HK2 : Hid (Kept wr w2) := k2
      have HL2 : Hid (Loc w2 bb [.slice ar X.length cr]) := HL.out.kept k2
      clear k2 AF
      rcases hr with ⟨q, d, rfl, hd, hfd⟩ | ⟨rfl, hfd⟩
      · obtain ⟨b, o, cap1, e, c0, c1, c2, hpt, hpb⟩ := asset_get (HV.out.kept (HK.out.trans HK2.out)) hd
        cases e
        have hql := (List.getElem?_eq_some_iff.1 hd).1
        have HS1 : Hid (ordN l (k + 1) = X ++ [d.1]) := by have := ord_some (k := k) (by rw [HX.out]; exact hfd); rw [HX.out] at this; exact this
        obtain ⟨d0, ⟨d1, t1⟩, ⟨d2, t2⟩⟩ := d
        dsimp only at c0 HS1
        have x0 := HL2.out.cell 0 rfl
        have xf := HL2.out.frozen 0
        have xl2 := HL2.out.lt
        have z0 : (0 : Int) ≤ (q : Int) := by omega
        have z1 : (q : Int) < (l.length : Int) := by omega
        have dq : decide ((q : Int) < 0) = false := decide_eq_false (by omega)
        have hgw := World.block_lt_of_cell? _ _ c0
        have HO2 : Hid (TxtO w2 (bb + 1) wr.heap.size (.slice ar X.length cr) X) := HO.out.kept HK2.out
        have hs2 := HK2.out.size
        clear c1 c2 hpt hpb hd hfd xl
        dsimp only
        repeat (go_not_at_region 9; first | go_values | go_skip | go_guarded | go_step | go_upon)
        go_region_law (refine step_app1_txt rfl (.tmp 18) (.tmp 24) rfl (lo := bb + 1) (hi := wr.heap.size) (v := .slice ar X.length cr) (ps := X) (by simp [Act.eval]) (HO2.out.kept (by (repeat (first | with_reducible exact But.refl _ _ _ | with_reducible apply But.drewN | with_reducible apply But.drew | with_reducible apply But.alloc)))) (b := w2.heap.size) d0 (by simp [Act.eval]) (by first | exact Loc.new w2.drew [.string d0] 9 | exact (Loc.new w2 [.string d0] 9)) (by have := HLN.out; omega) (by simp; omega) ?_; intro v5 w5 o5 b5; obtain ⟨a5, q5, hf5⟩ := o5.form; subst hf5; have HL5 : Hid (Loc w5 bb [.slice ar X.length cr]) := (HL2.out.kept (by (repeat (first | with_reducible exact But.refl _ _ _ | with_reducible apply But.drewN | with_reducible apply But.drew | with_reducible apply But.alloc)))).but (But.inner b5 (HO2.out.kept (by (repeat (first | with_reducible exact But.refl _ _ _ | with_reducible apply But.drewN | with_reducible apply But.drew | with_reducible apply But.alloc))))) (.inl (by omega)); have O5 : Hid (TxtO w5 (bb + 1) w5.heap.size (.slice a5 (X ++ [d0]).length q5) (X ++ [d0])) := o5; have B5 : Hid (But (bb + 1) wr.heap.size w2 w5) := But.trans (by (repeat (first | with_reducible exact But.refl _ _ _ | with_reducible apply But.drewN | with_reducible apply But.drew | with_reducible apply But.alloc))) (But.inner b5 (HO2.out.kept (by (repeat (first | with_reducible exact But.refl _ _ _ | with_reducible apply But.drewN | with_reducible apply But.drew | with_reducible apply But.alloc))))); have y0 := HL5.out.cell 0 rfl; have yf := HL5.out.frozen 0; have yl := HL5.out.lt; clear o5 b5)
        all_goals
          repeat (first | go_values | go_skip | go_guarded | go_step | go_upon)
          have hlx : (X ++ [d0]).length = X.length + 1 := by simp
          have h9 := O5.out
          rw [hlx] at h9
          have LL := HL5.out.set 0 (.slice a5 (X.length + 1) q5)
          have BB : But bb (bb + 1) w5 (w5.setCell ⟨bb, 0, none⟩ (.slice a5 (X.length + 1) q5)) := (But.refl _ _ _).setCell (by simp) (by simp) _
          have K5 : Kept w w5 := But.onto (HK.out.trans HK2.out) B5.out (by omega)
          refine ⟨⟨k + 1, _, hlt, by go_num, by show _ = _; rw [HS1.out, hlx, HLN.out], LL, by rw [HS1.out]; exact (h9.but BB (.inr (Nat.le_refl _))).mono (Nat.le_refl _) (by simp), K5.onto BB (by omega)⟩, by simp [intOf]; omega⟩
      · have hcut := ord_cut hlt (by rw [HX.out]; exact HLN.out) (by rw [HX.out]; exact hfd)
        obtain ⟨h1, h2⟩ := NO.out hcut
        subst h1 h2
        clear hcut hfd
        dsimp only
        repeat (first | go_values | go_skip | go_guarded | go_step | go_upon)
        go_ret2
        exact ⟨_, rfl, nil_txt _ _ _, HK.out.trans HK2.out⟩
    · have hke : k = l.length := by omega
      subst hke
      have hen : (ordL l).length = l.length := by show (ordN l l.length).length = _; rw [HX.out]; exact HLN.out
      have hXX : X = ordL l := HX.out.symm
      obtain ⟨h1, h2⟩ := YES.out hen
      subst h1 h2
      clear hen
      repeat (first | go_values | go_skip | go_guarded | go_step | go_upon)
      go_ret2
      exact ⟨_, rfl, by rw [← hXX]; exact RowO.mono HO.out (by omega) (Nat.le_refl _), HK.out⟩

end Go.Proofs.Ytmoaihhllfkmiaa

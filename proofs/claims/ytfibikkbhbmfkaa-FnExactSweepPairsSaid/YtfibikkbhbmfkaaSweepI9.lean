/-
  SweepPairs in the program.
-/
import Derived.Test.YtfibikkbhbmfkaaSweepS9
namespace Go.Proofs.Ytfibikkbhbmfkaa
open Go.ChangeShapes Go.WideShapes Go.ChangeAt Go.RowKit

set_option maxRecDepth 100000
set_option linter.unusedVariables false
set_option linter.unusedSimpArgs false

theorem grow_pair {B w5 w7 : World} {hi : Nat} {pv qv : Value} {l : List PairD} {op : List NumD} {o : Obj} (hk : Kept B w5) (hp : PairO w5 B.heap.size hi pv l) (hq : NumO w5 B.heap.size hi qv op) (hg : (w5.alloc o).grownBy w7 pv.ownBlock) : Kept B w7 ∧ NumO w7 B.heap.size w7.heap.size qv op := by
  have ka : Kept w5 (w5.alloc o) := (But.refl _ _ w5).alloc o
  refine ⟨(hk.trans ka).grown hg fun k h => .inl (own_lt hp.1 h).1, ?_⟩
  have h1 : RowO (w5.alloc o) B.heap.size hi 3 1 qv op.length (op.flatMap numC) := hq.kept ka
  have h2 : RowO (w5.alloc o) B.heap.size hi 70 2 pv l.length (l.flatMap pairC) := hp.kept ka
  exact RowO.low (h1.grown hg (ap_types h1 h2 (by decide)))
theorem grow_num {B w5 w7 : World} {hi : Nat} {pv qv : Value} {l : List PairD} {op : List NumD} {o : Obj} (hk : Kept B w5) (hp : PairO w5 B.heap.size hi pv l) (hq : NumO w5 B.heap.size hi qv op) (hg : (w5.alloc o).grownBy w7 qv.ownBlock) : Kept B w7 ∧ PairO w7 B.heap.size w7.heap.size pv l := by
  have ka : Kept w5 (w5.alloc o) := (But.refl _ _ w5).alloc o
  refine ⟨(hk.trans ka).grown hg fun k h => .inl (own_lt hq.1 h).1, ?_⟩
  have h1 : RowO (w5.alloc o) B.heap.size hi 3 1 qv op.length (op.flatMap numC) := hq.kept ka
  have h2 : RowO (w5.alloc o) B.heap.size hi 70 2 pv l.length (l.flatMap pairC) := hp.kept ka
  exact RowO.low (h2.grown hg (ap_types h2 h1 (by decide)))
theorem fig_bounds2 {p : ShapeD} (h : ShapeP p) : ∃ (t : TypeId) (v : Value) (fn : FuncId), figV p = .iface t v ∧ (∀ W : World, Calls Try.prog fn #[v] W fun e w' => e = .returned (.agg #[.int .i64 (bnd p).1, .int .i64 (bnd p).2.1, .int .i64 (bnd p).2.2.1, .int .i64 (bnd p).2.2.2]) ∧ Gr W w') ∧ (∀ W : World, (method 271 t v "loop.example/g00064/impl.bounds").run Try.prog W = .ok (fn, v) W) ∧ (∀ (args : Array Value) (W : World), (callFunc fn args).run Try.prog W = .ok (.enter fn args) W) := by
  obtain ⟨t, v, fn, h1, h2, h3⟩ := fig_bounds h
  refine ⟨t, v, fn, h1, h2, ?_, ?_⟩
  · rcases h3 with ⟨rfl, rfl⟩ | ⟨rfl, rfl⟩
    · exact fun W => mth_box v W
    · exact fun W => mth_disk v W
  · rcases h3 with ⟨rfl, rfl⟩ | ⟨rfl, rfl⟩
    · exact enters_of Try.func133 (by kernel_rfl) rfl
    · exact enters_of Try.func135 (by kernel_rfl) rfl
theorem indexNil (ao : Option Addr) (cap : Nat) (fv : Value) (w : World) : Calls Try.prog 67 #[.slice ao 0 cap, fv] w fun e w' => e = .returned (.int .i64 (-1)) ∧ w' = w := by
  go_enter Try.func67, Try.ntmps67
  repeat (first | go_values | go_skip | go_guarded | go_step | go_upon)
  go_rounds 1
  go_ret
  exact ⟨rfl, rfl⟩
theorem deleteNil (ao : Option Addr) (cap : Nat) (Bf Bl : Nat) (w : World) : Calls Try.prog 47 #[.slice ao 0 cap, .func (.func 48) #[] #[.pointer (some ⟨Bf, 0, none⟩), .pointer (some ⟨Bl, 0, none⟩)]] w fun e w' => e = .returned (.slice ao 0 cap) ∧ w' = w := by
  go_enter Try.func47, Try.ntmps47
  repeat (first | (go_at_call 67; refine (indexNil _ _ _ _).mono ?_; rintro e w' ⟨rfl, rfl⟩; dsimp only) | go_values | go_skip | go_guarded | go_step | go_upon)
  go_ret
  exact ⟨rfl, rfl⟩
/-- Struck from whatever row of its own. -/
theorem deleteAny (l : List Nat) (m lo hi cap : Nat) (ao : Option Addr) (Bf Bl : Nat) (p : Nat → Bool) (Q : World → Prop) (w : World) (hw : Q w) (hv : NumO w lo hi (.slice ao l.length cap) (nums l)) (hm : ∀ x ∈ l, x < m) (hn : l.length ≤ 1048576)
    (hP : ∀ (W : World) (x : Nat), Q W → x < m → Calls Try.prog 48 #[.int .i64 (x : Int), .pointer (some ⟨Bf, 0, none⟩), .pointer (some ⟨Bl, 0, none⟩)] W fun e w' => e = .returned (.bool (p x)) ∧ Kept W w') (hQ : ∀ g W W', ao = some ⟨g, 0, none⟩ → Q W → But g (g + 1) W W' → Q W') :
    Calls Try.prog 47 #[.slice ao l.length cap, .func (.func 48) #[] #[.pointer (some ⟨Bf, 0, none⟩), .pointer (some ⟨Bl, 0, none⟩)]] w fun e w' => e = .returned (.slice ao (l.filter fun x => !p x).length cap) ∧ NumO w' lo hi (.slice ao (l.filter fun x => !p x).length cap) (nums (l.filter fun x => !p x)) ∧ But (blo (.slice ao l.length cap)) (bhi (.slice ao l.length cap)) w w' ∧ Q w' := by
  by_cases h0 : 0 < l.length
  · obtain ⟨g, cap', hfm⟩ := own_someG hv.1 (by rw [nums_len]; exact h0)
    rw [nums_len] at hfm
    cases hfm
    refine (deleteFunc l m g cap lo hi Bf Bl p Q w hw hv hm hn hP (fun W W' => hQ g W W' rfl)).mono ?_
    rintro e w' ⟨rfl, h1, h2⟩
    exact ⟨rfl, h1, h2, hQ g _ _ rfl hw h2⟩
  · have hl0 : l = [] := List.length_eq_zero_iff.1 (by omega)
    subst hl0
    refine (deleteNil ao cap Bf Bl w).mono ?_
    rintro e w' ⟨rfl, rfl⟩
    exact ⟨rfl, hv, But.refl _ _ _, hw⟩
theorem num_nil (w : World) (lo hi : Nat) : NumO w lo hi (.slice none 0 0) [] := ⟨World.ownsRow_nil _ _ _ _, fun g hg => by simp [Value.ownBlock] at hg⟩
attribute [local go_sem] mth_box mth_disk fld0 fld1 fld2 fld3
set_option maxHeartbeats 16000000 in
theorem isweep (ps : List ShapeD) (v : Value) (w : World) (hv : ShapeAt w v ps) (hn : ps.length ≤ 1048576) : Calls Try.prog 29 #[v] w (SwO ps w) := by
  obtain ⟨ao, cap, hsl⟩ := row_nil hv
  subst hsl
  by_cases hg : shapesB ps = true
  · have hr : swR ps = (allT ps ps.length, ((allG (og ps) ps.length ps.length).length : Int), true) := if_pos hg
    unfold SwO
    rw [hr]
    have hn' := shapes_len hg
    obtain ⟨i0, hi0, hz0, hz1, hz2⟩ := info_parts infoPair
    obtain ⟨j0, hj0, hy0, hy1, hy2⟩ := info_parts infoNum
    go_enter Try.func29, Try.ntmps29
    repeat (first | go_values | go_skip | go_guarded | go_step | go_upon)
    go_at_call 43
    refine (figuresOf ps _ _ hv (by omega)).mono ?_
    rintro e W0 hF
    obtain ⟨⟨v1, rfl, o1⟩, K0⟩ := figs_yes hg hF
    obtain ⟨fao, fcap, hfm⟩ := o1.form
    subst hfm
    have HV0 : Hid (FigAt W0 (.slice fao ps.length fcap) ps) := o1.at
    have HG : Hid (shapesB ps = true) := hg
    clear hF o1 hv hg hr
    dsimp only
    repeat (first | go_values | go_skip | go_guarded | go_step | go_upon)
    obtain ⟨W1, hW1⟩ : ∃ W, W = W0.alloc (.cells #[.slice fao ps.length fcap] 66) := ⟨_, rfl⟩
    have K1 : Kept w W1 := by rw [hW1]; exact K0.alloc _
    have g1 : W1.cell? ⟨W0.heap.size, 0, none⟩ = some (.slice fao ps.length fcap) := by rw [hW1]; simp [go_sem]
    have HV : Hid (FigAt W1 (.slice fao ps.length fcap) ps) := by show FigAt W1 _ ps; rw [hW1]; exact HV0.out.kept ((But.refl _ _ _).alloc _)
    rw [← hW1]
    clear hW1 HV0
    go_at_call 46
    refine (fromTheLeft ps fao fcap W1 HV.out HG.out).mono ?_
    rintro e W2 ⟨⟨ov, ord, rfl, ho1, ho2, ho3⟩, K2⟩
    have HORD : Hid (Ord ps ord) := ⟨HG.out, ho1, ho2⟩
    have hol : ord.length = ps.length := HORD.out.len
    obtain ⟨oao, ocap, hfm⟩ := ho3.form
    rw [nums_len, hol] at hfm
    subst hfm
    have HON : Hid (NumAt W2 (.slice oao ps.length ocap) (nums ord)) := ho3.at
    have HV2 : Hid (FigAt W2 (.slice fao ps.length fcap) ps) := HV.out.kept K2
    have g2 := Kept.cell K2 g1
    have HKW : Hid (Kept w W2) := K1.trans K2
    have hB2 := cell_lt g2
    clear ho1 ho2 ho3 HV g1 K1 K2 K0
    dsimp only
    repeat (first | go_values | go_skip | go_guarded | go_step | go_upon)
    go_loopw [7, 8, 9, 25] (fun vp vo vl vi wr => ∃ (j lk : Nat) (l : List PairD) (op : List Nat) (pao qao : Option Addr) (pcap qcap : Nat), j ≤ ps.length ∧ vi = .int .i64 j ∧ vp = .slice pao l.length pcap ∧ vo = .slice qao op.length qcap ∧ vl = .int .i64 lk ∧ prsR (tg ps) ord j = l ∧ opn ps ord j = op ∧ (prsR (og ps) ord j).length = lk ∧ lk ≤ 40 * j ∧ l.length ≤ 40 * j ∧ PairO wr W2.heap.size wr.heap.size (.slice pao l.length pcap) l ∧ NumO wr W2.heap.size wr.heap.size (.slice qao op.length qcap) (nums op) ∧ Kept W2 wr) (fun _ _ _ vi _ => ps.length - (intOf vi).toNat)
    case atStart => exact ⟨0, 0, [], [], none, none, 0, 0, by omega, rfl, rfl, rfl, rfl, rfl, rfl, rfl, by omega, by simp, pair_nil _ _ _, num_nil _ _ _, But.refl _ _ _⟩
    case round =>
      obtain ⟨j, lk, l, op, pao, qao, pcap, qcap, hj, rfl, rfl, rfl, rfl, hl, hop, hlk, hlkb, hllb, hpo, hqo, hkp⟩ := hrel
      have HL : Hid (prsR (tg ps) ord j = l) := hl
      have HOP : Hid (opn ps ord j = op) := hop
      have HLK : Hid ((prsR (og ps) ord j).length = lk) := hlk
      have HPO : Hid (PairO wr W2.heap.size wr.heap.size (.slice pao l.length pcap) l) := hpo
      have HQO : Hid (NumO wr W2.heap.size wr.heap.size (.slice qao op.length qcap) (nums op)) := hqo
      have HK : Hid (Kept W2 wr) := hkp
      have hwz := hkp.size
      have y1 := Kept.cell hkp g2
      have hopl : op.length ≤ j := by rw [← hop]; exact opn_len ps ord j
      have HMEM : Hid (∀ x ∈ op, x < ps.length) := fun x hx => HORD.out.lt (opn_mem (j := j) (by omega) x (by rw [hop]; exact hx))
      clear hl hop hlk hpo hqo
      by_cases hlt : j < ps.length
      · obtain ⟨y, hy⟩ : ∃ y, ord[j]? = some y := ⟨_, List.getElem?_eq_getElem (by omega)⟩
        have hyl : y < ps.length := HORD.out.lt (List.mem_of_getElem? hy)
        obtain ⟨p, hp⟩ := get_some hyl
        obtain ⟨ob, oo, ocap', e, c0⟩ := num_get (HON.out.kept hkp) (nums_get hy)
        rw [nums_len, hol] at e
        cases e
        obtain ⟨fb, fo, fcap', e, d0⟩ := fig_get (HV2.out.kept hkp) hp
        cases e
        have HY : Hid (ord[j]? = some y) := hy
        have HP : Hid (ps[y]? = some p) := hp
        have HS : Hid (ShapeP p) := shapes_good HG.out hp
        have HLF : Hid (lefts ps y = (bnd p).1) := lefts_of hp
        obtain ⟨t, fv, fn, hfv, hcb, hmt, hen⟩ := fig_bounds2 HS.out
        rw [hfv] at d0
        have HCB : Hid _ := hcb
        obtain ⟨⟨b0, b1, b2, b3⟩, hbq⟩ : ∃ x, bnd p = x := ⟨_, rfl⟩
        rw [hbq] at HCB HLF
        dsimp only at HCB HLF
        clear hy hp hkp hfv hcb hbq
        have q1 := cell_lt d0
        repeat (first | go_values | go_skip | go_guarded | go_step | go_upon)
        refine (HCB.out _).mono ?_
        rintro e w3 ⟨rfl, gr3⟩
        have k3 : Kept wr w3 := gr3.kept
        have HK3 : Hid (Kept W2 w3) := HK.out.trans k3
        have HPO3 : Hid (PairO w3 W2.heap.size wr.heap.size (.slice pao l.length pcap) l) := HPO.out.kept k3
        have HQO3 : Hid (NumO w3 W2.heap.size wr.heap.size (.slice qao op.length qcap) (nums op)) := HQO.out.kept k3
        have y1 := Kept.cell k3 y1
        have hw3 := k3.size
        clear k3 gr3 hmt hen c0 d0 HCB HPO HQO HK
        dsimp only
        repeat (first | go_values | go_skip | go_guarded | go_step | go_upon)
        go_at_call 47
        have ka : Kept w3 (w3.alloc (.cells #[.int .i64 b0] 3)) := (But.refl _ _ _).alloc _
        refine (deleteAny op ps.length W2.heap.size wr.heap.size qcap qao W0.heap.size w3.heap.size (fun x => decide (rights ps x < b0)) (fun W => Kept W2 W ∧ W.cell? ⟨w3.heap.size, 0, none⟩ = some (.int .i64 b0)) _ ⟨HK3.out.alloc _, by simp [go_sem]⟩ (HQO3.out.kept ka) HMEM.out (by omega) ?hp ?hq).mono ?_
        case hp =>
          rintro W x ⟨hk, hc⟩ hx
          obtain ⟨px, hpx⟩ := get_some hx
          refine (cloEnds ps _ fcap W0.heap.size w3.heap.size b0 x px W (HV2.out.kept hk) hpx (shapes_good HG.out hpx) hn' (Kept.cell hk g2) hc).mono ?_
          rintro e w' ⟨rfl, hgr⟩
          rw [← rights_of hpx]
          exact ⟨rfl, hgr.kept⟩
        case hq =>
          rintro g W W' hao ⟨hk, hc⟩ hb
          subst hao
          have h1 := (own_lt HQO3.out.1 (g := g) rfl).1
          have h2 := HQO3.out.2 g rfl
          exact ⟨hk.onto hb h1, hb.cell hc (.inr (by dsimp only; omega))⟩
        rintro e w4 ⟨rfl, hq4, hb4, hk4, hc4⟩
        have HPO4 : Hid (PairO w4 W2.heap.size wr.heap.size (.slice pao l.length pcap) l) := RowO.apart (HPO3.out.kept ka) hb4 (ap_types (HPO3.out.kept ka) (HQO3.out.kept ka) (by decide))
        obtain ⟨op', hop'⟩ : ∃ o, op.filter (fun x => !decide (rights ps x < b0)) = o := ⟨_, rfl⟩
        rw [hop'] at hq4 ⊢
        have HOP' : Hid (op.filter (fun x => !decide (rights ps x < b0)) = op') := hop'
        have HQO4 : Hid (NumO w4 W2.heap.size wr.heap.size (.slice qao op'.length qcap) (nums op')) := hq4
        have HK4 : Hid (Kept W2 w4) := hk4
        have hw4 : wr.heap.size ≤ w4.heap.size := by have := hb4.size; simp at this; omega
        have hopl' : op'.length ≤ op.length := by rw [← hop']; exact List.length_filter_le _ _
        have HMEM' : Hid (∀ x ∈ op', x < ps.length) := fun x hx => HMEM.out x (by rw [← hop'] at hx; exact (List.mem_filter.1 hx).1)
        have y1 := Kept.cell hk4 g2
        have ei := IntWalk.i64_in (n := (lk : Int) + (op'.length : Int)) (by omega)
        clear hq4 hb4 hk4 hc4 hop' HPO3 HQO3 HK3 ka HMEM
        dsimp only
        repeat (first | go_values | go_skip | go_guarded | go_step | go_upon)
        go_loopw [7, 44] (fun vp vi wr2 => ∃ (m : Nat) (l' : List PairD) (pao' : Option Addr) (pcap' : Nat), m ≤ op'.length ∧ vi = .int .i64 m ∧ vp = .slice pao' l'.length pcap' ∧ l ++ (op'.take m).flatMap (fun a => tg ps a y) = l' ∧ l'.length ≤ 40 * j + m ∧ PairO wr2 W2.heap.size wr2.heap.size (.slice pao' l'.length pcap') l' ∧ NumO wr2 W2.heap.size wr2.heap.size (.slice qao op'.length qcap) (nums op') ∧ Kept W2 wr2) (fun _ vi _ => op'.length - (intOf vi).toNat)
        case atStart => exact ⟨0, l, pao, pcap, by omega, rfl, rfl, by simp, by omega, HPO4.out.low, HQO4.out.low, HK4.out⟩
        case round =>
          clear HPO4 HQO4 HK4 y1 q1
          obtain ⟨m, l', pao', pcap', hm, rfl, rfl, hl', hlb', hpo, hqo, hkp⟩ := hrel
          have HL' : Hid (l ++ (op'.take m).flatMap (fun a => tg ps a y) = l') := hl'
          have HPO : Hid (PairO _ W2.heap.size _ (.slice pao' l'.length pcap') l') := hpo
          have HQO : Hid (NumO _ W2.heap.size _ (.slice qao op'.length qcap) (nums op')) := hqo
          have HK : Hid (Kept W2 _) := hkp
          have hwz2 := hkp.size
          have y1 := Kept.cell hkp g2
          clear hl' hpo hqo
          by_cases hmt : m < op'.length
          · obtain ⟨x, hx⟩ : ∃ x, op'[m]? = some x := ⟨_, List.getElem?_eq_getElem hmt⟩
            have hxl := HMEM'.out x (List.mem_of_getElem? hx)
            obtain ⟨px, hpx⟩ := get_some hxl
            obtain ⟨qb, qo, qcap', e, c0⟩ := num_get HQO.out.at (nums_get hx)
            rw [nums_len] at e
            cases e
            obtain ⟨fb2, fo2, fcap2, e, d0⟩ := fig_get (HV2.out.kept hkp) hpx
            cases e
            obtain ⟨fb3, fo3, fcap3, e, d1⟩ := fig_get (HV2.out.kept hkp) HP.out
            cases e
            have HX : Hid (op'[m]? = some x) := hx
            have HSX : Hid (ShapeP px) := shapes_good HG.out hpx
            have HTGX : Hid (tg ps x y = if TouchP px p then [(((min x y : Nat) : Int), ((max x y : Nat) : Int))] else []) := tg_touch HG.out hpx HP.out
            have HTC : Hid (∀ W, Calls Try.prog 40 #[figV px, figV p] W fun e' w' => e' = .returned (.bool (decide (TouchP px p))) ∧ Kept W w') := fun W => touching px p W HSX.out HS.out
            obtain ⟨ft, fv1, hfv1⟩ := figV_iface px
            obtain ⟨ft2, fv2, hfv2⟩ := figV_iface p
            rw [hfv1] at d0 HTC
            rw [hfv2] at d1 HTC
            clear hx hpx hkp hfv1 hfv2
            have hbb := cell_lt d0
            have hbc := cell_lt c0
            have hbd := cell_lt y1
            have hmn : ∀ (ts : Array TypeId) (ty : TypeId) (W : World), (Builtin.min_ ts ty #[.int .i64 (x : Int), .int .i64 (y : Int)]).run Try.prog W = .ok (.int .i64 ((min x y : Nat) : Int)) W := fun ts ty W => by
              have : (if (y : Int) < (x : Int) then (y : Int) else (x : Int)) = ((min x y : Nat) : Int) := by split <;> omega
              rw [← this]
              simp [Builtin.min_, Builtin.min2]
            have hmx : ∀ (ts : Array TypeId) (ty : TypeId) (W : World), (Builtin.max_ ts ty #[.int .i64 (x : Int), .int .i64 (y : Int)]).run Try.prog W = .ok (.int .i64 ((max x y : Nat) : Int)) W := fun ts ty W => by
              have : (if (y : Int) > (x : Int) then (y : Int) else (x : Int)) = ((max x y : Nat) : Int) := by split <;> omega
              rw [← this]
              simp [Builtin.max_, Builtin.max2]
            obtain ⟨mn, hmnE⟩ : ∃ z : Nat, min x y = z := ⟨_, rfl⟩
            obtain ⟨mx, hmxE⟩ : ∃ z : Nat, max x y = z := ⟨_, rfl⟩
            rw [hmnE] at hmn HTGX
            rw [hmxE] at hmx HTGX
            clear hmnE hmxE
            cases ht : decide (TouchP px p)
            · have HE : Hid (tg ps x y = []) := by show tg ps x y = _; rw [HTGX.out, if_neg (of_decide_eq_false ht)]
              repeat (first | go_values | go_skip | go_guarded | go_step | go_upon)
              refine wp_region_kept (by kernel_rfl) (by kernel_rfl) ?_
              have hcc := KW.cell_eq wr
              repeat (go_big_quiet_step (first | (go_at_call 40; with_reducible exact kw_call (calls_bool ht (HTC.out _)))))
              refine wpQuiet_nil ?_
              rintro w5 ⟨⟨w6, k5⟩, h5⟩
              change w5 = w6 at h5
              subst h5
              have HK5 : Hid (Kept wr w5) := k5
              clear hcc k5 c0 d0 d1 y1
              repeat (first | go_values | go_skip | go_guarded | go_step | go_upon)
              refine ⟨⟨m + 1, l', pao', pcap', hmt, by go_num, rfl, ?_, by omega, (HPO.out.kept HK5.out).low, (HQO.out.kept HK5.out).low, HK.out.trans HK5.out⟩, by simp [intOf]; omega⟩
              rw [take_snoc HX.out, List.flatMap_append, ← List.append_assoc, HL'.out]
              simp [HE.out]
            · have HE : Hid (tg ps x y = [((mn : Int), (mx : Int))]) := by show tg ps x y = _; rw [HTGX.out, if_pos (of_decide_eq_true ht)]
              repeat (first | go_values | go_skip | go_guarded | go_step | go_upon)
              refine wp_region_kept (by kernel_rfl) (by kernel_rfl) ?_
              have hcc := KW.cell_eq wr
              repeat (go_big_quiet_step (first | (go_at_call 40; with_reducible exact kw_call (calls_bool ht (HTC.out _)))))
              refine wpQuiet_nil ?_
              rintro w5 ⟨⟨w6, k5⟩, h5⟩
              change w5 = w6 at h5
              subst h5
              have hw5 := k5.size
              have HK5 : Hid (Kept W2 w5) := HK.out.trans k5
              have HPO5 : Hid (PairO w5 W2.heap.size wr.heap.size (.slice pao' l'.length pcap') l') := HPO.out.kept k5
              have HQO5 : Hid (NumO w5 W2.heap.size wr.heap.size (.slice (some ⟨qb, qo, none⟩) op'.length qcap) (nums op')) := HQO.out.kept k5
              clear hcc k5 c0 d0 d1 y1 HPO HQO HK
              repeat (first
                | (at_builtin
                   refine wpList_append_own _ rfl _ _ 36 rfl W2.heap.size 70 i0 (.agg #[.int .i64 0, .int .i64 0]) 2 16 Try.underlying36 hi0 hz0 hz1 hz2 rfl (by decide) _ _ _ rfl (own_kept HPO5.out.1 ((But.refl _ _ w5).alloc _)) ⟨w5.heap.size, 0, none⟩ 1 1 (pairC ((mn : Int), (mx : Int))) rfl rfl (news_pair (Loc.new w5 (pairC ((mn : Int), (mx : Int))) 70)) (one_pair _) (by unfold maxLen; omega) (by omega) (by simp; omega) ?_
                   intro v' w7 hown' hgrow _
                   obtain ⟨ao5, cap5, hf5, _⟩ := own_form hown'
                   subst hf5
                   have HGW : Hid (World.grownBy _ _ _) := hgrow
                   have HW : Hid (w7.ownsRow W2.heap.size 70 2 (.slice ao5 (l'.length + 1) cap5) (l'.length + 1) (l'.flatMap pairC ++ pairC ((mn : Int), (mx : Int)))) := hown'
                   clear hgrow hown')
                | go_values | go_skip | go_guarded | go_step | go_upon)
              obtain ⟨h7a, h7b⟩ := grow_pair HK5.out HPO5.out HQO5.out HGW.out
              refine ⟨⟨m + 1, l' ++ [((mn : Int), (mx : Int))], ao5, cap5, hmt, by go_num, by simp, ?_, by simp; omega, ?_, h7b, h7a⟩, by simp [intOf]; omega⟩
              · rw [take_snoc HX.out, List.flatMap_append, ← List.append_assoc, HL'.out]
                simp [HE.out]
              · have := RowO.top HW.out
                unfold PairO
                rw [List.flatMap_append, List.length_append]
                simpa using this
          · have hme : m = op'.length := by omega
            subst hme
            rw [List.take_length] at HL'
            have HPR := HORD.out.pairs HY.out
            have HLKR := HORD.out.looked HY.out
            rw [HL.out, HOP.out, HLF.out, HOP'.out, HL'.out] at HPR
            rw [HLK.out, HOP.out, HLF.out, HOP'.out] at HLKR
            have HON2 : Hid (opn ps ord (j + 1) = op' ++ [y]) := by
              show opn ps ord (j + 1) = _
              rw [opn, List.getD_eq_getElem?_getD, HY.out, Option.getD_some, HOP.out, HLF.out, HOP'.out]
            have HQR : Hid (wr.ownsRow W2.heap.size 3 1 (.slice qao op'.length qcap) op'.length ((nums op').flatMap numC)) := by
              have := HQO.out.1
              rw [nums_len] at this
              exact this
            have HPR' : Hid _ := HPR
            have HLKR' : Hid _ := HLKR
            clear HPR HLKR
            repeat (first
              | (at_builtin
                 refine wpList_append_own _ rfl _ _ 72 rfl W2.heap.size 3 j0 (.int .i64 0) 1 8 Try.underlying72 hj0 hy0 hy1 hy2 rfl (by decide) _ _ _ rfl (own_kept HQR.out ((But.refl _ _ wr).alloc _)) ⟨wr.heap.size, 0, none⟩ 1 1 [.int .i64 (y : Int)] rfl rfl (news1 (Loc.new wr [.int .i64 (y : Int)] 3)) (by simp [Value.oneCell']) (by unfold maxLen; omega) (by omega) (by simp; omega) ?_
                 intro v' w7 hown' hgrow _
                 obtain ⟨ao5, cap5, hf5, _⟩ := own_form hown'
                 subst hf5
                 have HGW : Hid (World.grownBy _ _ _) := hgrow
                 have HW : Hid (w7.ownsRow W2.heap.size 3 1 (.slice ao5 (op'.length + 1) cap5) (op'.length + 1) ((nums op').flatMap numC ++ [.int .i64 (y : Int)])) := hown'
                 clear hgrow hown')
              | go_values | go_skip | go_guarded | go_step | go_upon)
            obtain ⟨h7a, h7b⟩ := grow_num HK.out HPO.out HQO.out HGW.out
            refine ⟨⟨j + 1, lk + op'.length, l', op' ++ [y], pao', ao5, pcap', cap5, hlt, by go_num, rfl, by simp, by simp, HPR'.out, HON2.out, HLKR'.out, by omega, by omega, h7b, ?_, h7a⟩, by simp [intOf]; omega⟩
            have := RowO.top HW.out
            unfold NumO
            rw [nums_len, nums_snoc, List.flatMap_append, List.length_append]
            simpa [numC] using this
      · have hje : j = ps.length := by omega
        subst hje
        have HPERM : Hid ((allT ps ps.length).Perm l) := by
          show (allT ps ps.length).Perm l
          have := HORD.out.all_pairs
          rw [hol, HL.out] at this
          exact this.symm
        have HLOOK : Hid (lk = (allG (og ps) ps.length ps.length).length) := by
          show lk = _
          have := HORD.out.all_looked
          rw [hol, HLK.out] at this
          exact this
        repeat (first | go_values | go_skip | go_guarded | go_step | go_upon)
        go_at_call 49
        refine (sortPairs l (allT ps ps.length) _ _ W2.heap.size HPO.out HPERM.out (allT_sorted ps _) (by omega)).mono ?_
        rintro e w9 ⟨rfl, o9, b9⟩
        have HO9 : Hid (PairO w9 W2.heap.size w9.heap.size (.slice pao l.length pcap) (allT ps ps.length)) := o9
        have HK9 : Hid (Kept W2 w9) := HK.out.onto b9 (Nat.le_refl _)
        clear o9 b9 y1
        dsimp only
        repeat (first | go_values | go_skip | go_guarded | go_step | go_upon)
        refine bodyPost_ret (v := .tuple #[.slice pao l.length pcap, .int .i64 (lk : Int), .bool true]) (by simp [results, Try.results29, go_sem]) rfl ?_
        refine ⟨_, by rw [HLOOK.out], HO9.out.mono HKW.out.size (Nat.le_refl _), HKW.out.trans HK9.out⟩
  · have hr : swR ps = ([], 0, false) := if_neg hg
    unfold SwO
    rw [hr]
    go_enter Try.func29, Try.ntmps29
    repeat (first | go_values | go_skip | go_guarded | go_step | go_upon)
    go_at_call 43
    refine (figuresOf ps _ _ hv hn).mono ?_
    rintro e w1 hF
    obtain ⟨rfl, k1⟩ := figs_no hg hF
    clear hF
    dsimp only
    repeat (first | go_values | go_skip | go_guarded | go_step | go_upon)
    refine bodyPost_ret (v := .tuple #[.slice none 0 0, .int .i64 0, .bool false]) (by simp [results, Try.results29, go_sem]) rfl ?_
    exact ⟨_, rfl, pair_nil _ _ _, by (repeat (first | with_reducible exact k1 | with_reducible apply But.drewN | with_reducible apply But.drew | with_reducible apply But.alloc))⟩

end Go.Proofs.Ytfibikkbhbmfkaa

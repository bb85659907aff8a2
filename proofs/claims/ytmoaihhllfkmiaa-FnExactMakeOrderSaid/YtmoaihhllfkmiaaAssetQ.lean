/-
  Lists of assets held against one another.
-/
import Derived.Test.YtmoaihhllfkmiaaAsset
import Derived.Deep.RegionHeld3
namespace Go.Proofs.Ytmoaihhllfkmiaa
open Go.ChangeShapes Go.WideShapes Go.ChangeAt Go.RowKit

set_option maxRecDepth 100000
set_option linter.unusedVariables false
set_option linter.unusedSimpArgs false

set_option maxHeartbeats 4000000 in
theorem eqAsset1 (f0 : ByteArray) (v1 v1' v2 v2' : Value) (l : List TxtD) (m : List BytD) (w : World) (hv : TxtAt w v1 l) (hv' : TxtAt w v1' l) (hb : BytAt w v2 m) (hb' : BytAt w v2' m) (hn : l.length ≤ 9000000000000000000) (hm : m.length ≤ 9000000000000000000) :
    Calls Try.prog 58 #[.agg #[.string f0, v1, v2], .agg #[.string f0, v1', v2']] w fun e w' => e = .returned (.bool true) ∧ Kept w w' := by
  obtain ⟨ao, cap, hsl⟩ := row_nil hv
  subst hsl
  obtain ⟨ao', cap', hsl⟩ := row_nil hv'
  subst hsl
  obtain ⟨ap, cp, hsl⟩ := row_nil hb
  subst hsl
  obtain ⟨ap', cp', hsl⟩ := row_nil hb'
  subst hsl
  have KA : ∀ a b : Obj, Kept w ((w.alloc a).alloc b) := fun a b => ((But.refl _ _ _).alloc _).alloc _
  have HB : Hid (BytAt w (.slice ap m.length cp) m ∧ BytAt w (.slice ap' m.length cp') m) := ⟨hb, hb'⟩
  clear hb hb'
  go_enter Try.func58, Try.ntmps58
  go_wp2_with (first | (go_at_call 21; refine (eqTxtS l _ _ _ (hv.kept (KA _ _)) (hv'.kept (KA _ _)) hn).mono ?_; rintro e w1 ⟨rfl, hk⟩; have L0 := (((Loc.new _ [.string f0, .slice ao l.length cap, .slice ap m.length cp] 30).alloc _).kept hk); have L1 := (Loc.new _ [.string f0, .slice ao' l.length cap', .slice ap' m.length cp'] 30).kept hk; simp only [World.size_alloc] at L0 L1; have a2 := L0.cell 2 rfl; have b2 := L1.cell 2 rfl; have K1 : Kept w w1 := (KA _ _).trans hk; clear L0 L1) | (go_at_call 96; refine (eqBytS m _ _ _ (HB.out.1.kept K1) (HB.out.2.kept K1) hm).mono ?_; rintro e w2 ⟨rfl, hk2⟩))
  go_ret
  exact ⟨rfl, K1.trans hk2⟩

set_option maxHeartbeats 4000000 in
theorem eqAssetS (ps qs : List AssetE) (v v' : Value) (w : World) (hpq : ps.map stripA = qs.map stripA) (hv : AssetAt w v ps) (hv' : AssetAt w v' qs) (hn : ps.length ≤ 9000000000000000000) (hm : ∀ p ∈ ps, p.2.1.2.length ≤ 9000000000000000000 ∧ p.2.2.2.length ≤ 9000000000000000000) :
    Calls Try.prog 20 #[v, v'] w fun e w' => e = .returned (.bool true) ∧ Kept w w' := by
  have hlen : qs.length = ps.length := by have := congrArg List.length hpq; simpa using this.symm
  obtain ⟨ao, cap, hsl⟩ := row_nil hv.1
  subst hsl
  obtain ⟨ao', cap', hsl⟩ := row_nil hv'.1
  rw [hlen] at hsl
  subst hsl
  go_enter Try.func20, Try.ntmps20
  go_wp2
  go_loopw [5] (fun i wr => ∃ (k : Nat), k ≤ ps.length ∧ i = .int .i64 k ∧ Kept w wr) (fun i _ => ps.length - (intOf i).toNat)
  case atStart => exact ⟨0, by omega, rfl, But.refl _ _ _⟩
  case round =>
    obtain ⟨k, hk, rfl, hkp⟩ := hrel
    by_cases hlt : k < ps.length
    · obtain ⟨p, hp⟩ : ∃ p, ps[k]? = some p := ⟨_, List.getElem?_eq_getElem hlt⟩
      obtain ⟨q, hq⟩ : ∃ q, qs[k]? = some q := ⟨_, List.getElem?_eq_getElem (by omega)⟩
      have hst : stripA p = stripA q := by
        have := congrArg (fun l => l[k]?) hpq
        simpa [hp, hq] using this
      obtain ⟨b, o, cap1, e, c0, c1, c2, hpt, hpb⟩ := asset_get (hv.kept hkp) hp
      cases e
      obtain ⟨b', o', cap1', e, c0', c1', c2', hqt, hqb⟩ := asset_get (hv'.kept hkp) hq
      rw [hlen] at e
      cases e
      have hll := hm p (List.mem_of_getElem? hp)
      clear hp hq
      obtain ⟨y0, ⟨v1, l⟩, ⟨u1, m⟩⟩ := p
      obtain ⟨x0, ⟨v2, l2⟩, ⟨u2, m2⟩⟩ := q
      simp only [stripA, Prod.mk.injEq] at hst
      obtain ⟨rfl, rfl, rfl⟩ := hst
      dsimp only at hpt hpb hqt hqb hll c0 c1 c2 c0' c1' c2'
      have HE : Hid (∀ W, Kept wr W → Calls Try.prog 58 #[.agg #[.string y0, v1, u1], .agg #[.string y0, v2, u2]] W fun e w' => e = .returned (.bool true) ∧ Kept W w') := fun W k => eqAsset1 y0 v1 v2 u1 u2 l m W (hpt.kept k) (hqt.kept k) (hpb.kept k) (hqb.kept k) hll.1 hll.2
      obtain ⟨a1, p1, hsl⟩ := row_nil hpt
      subst hsl
      obtain ⟨a2, p2, hsl⟩ := row_nil hqt
      subst hsl
      obtain ⟨a3, p3, hsl⟩ := row_nil hpb
      subst hsl
      obtain ⟨a4, p4, hsl⟩ := row_nil hqb
      subst hsl
      have z1 : (0 : Int) ≤ (k : Int) := by omega
      have z2 : (k : Int) < (ps.length : Int) := by omega
      have HK : Hid _ := hkp
      clear hkp hpt hpb hqt hqb hll
      go_wp2_with fail
      go_region_held3 (fun w' => Kept wr w' ∧ w'.cell? ⟨b, o + k * 3, none⟩ = some (.string y0) ∧ w'.cell? ⟨b, o + k * 3 + 1, none⟩ = some (.slice a1 l.length p1) ∧ w'.cell? ⟨b, o + k * 3 + 2, none⟩ = some (.slice a3 m.length p3) ∧ w'.cell? ⟨b', o' + k * 3, none⟩ = some (.string y0) ∧ w'.cell? ⟨b', o' + k * 3 + 1, none⟩ = some (.slice a2 l.length p2) ∧ w'.cell? ⟨b', o' + k * 3 + 2, none⟩ = some (.slice a4 m.length p4)) (first | (refine ⟨?_, ?_, ?_, ?_, ?_, ?_, ?_⟩ <;> first | assumption | exact But.refl _ _ _ | exact (But.refl _ _ _).drew) | simp [go_sem, *])
        (first | (go_at_call 58; refine (HE.out _ (But.drew (But.refl _ _ _))).mono ?_; rintro e w' ⟨rfl, hk2⟩; have c0 := Kept.cell hk2 c0; have c1 := Kept.cell hk2 c1; have c2 := Kept.cell hk2 c2; have c0' := Kept.cell hk2 c0'; have c1' := Kept.cell hk2 c1'; have c2' := Kept.cell hk2 c2'; have hkk : Kept wr w' := ((But.refl _ _ wr).drew).trans hk2))
      go_wp2
      exact ⟨⟨k + 1, hlt, by go_num, HK.out.trans hkk⟩, by simp [intOf]; omega⟩
    · have hke : k = ps.length := by omega
      subst hke
      go_wp2
      go_ret
      exact ⟨rfl, hkp⟩

end Go.Proofs.Ytmoaihhllfkmiaa

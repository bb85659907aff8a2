/-
  Lists of assets copied.
-/
import Derived.Test.YtmoaihhllfkmiaaAsset
import Derived.Deep.RegionHeld3
namespace Go.Proofs.Ytmoaihhllfkmiaa
open Go.ChangeShapes Go.WideShapes Go.ChangeAt Go.RowKit

set_option maxRecDepth 100000
set_option linter.unusedVariables false
set_option linter.unusedSimpArgs false

set_option maxHeartbeats 4000000 in
theorem toAsset1 (f0 : ByteArray) (f1 f2 : Value) (l : List TxtD) (m : List BytD) (w : World) (hv : TxtAt w f1 l) (hv2 : BytAt w f2 m) (hl : l.length ≤ 1048576) (hm : m.length ≤ 1048576) :
    Calls Try.prog 57 #[.agg #[.string f0, f1, f2]] w fun e w' => ∃ v1 v2, e = .returned (.agg #[.string f0, v1, v2]) ∧ TxtO w' (w.heap.size + 1) w'.heap.size v1 l ∧ BytO w' (w.heap.size + 1) w'.heap.size v2 m ∧ Kept w w' := by
  obtain ⟨ao, cap, hsl⟩ := row_nil hv
  subst hsl
  obtain ⟨ap, cp, hsl⟩ := row_nil hv2
  subst hsl
  have HV2 : Hid (BytAt w (.slice ap m.length cp) m) := hv2
  clear hv2
  go_enter Try.func57, Try.ntmps57
  repeat (first | go_values | go_skip | go_guarded | go_step | go_upon)
  go_at_call 94
  refine (toTxtS l _ _ (hv.kept ((((But.refl _ _ _).alloc _).alloc _).alloc _)) hl).mono ?_
  rintro e w1 ⟨v1, rfl, ho, hk⟩
  obtain ⟨a1, c1, hf⟩ := ho.form
  subst hf
  have K1 : Kept w w1 := ((((But.refl _ _ _).alloc _).alloc _).alloc _).trans hk
  have L0 := ((((Loc.new _ [.string f0, .slice ao l.length cap, .slice ap m.length cp] 87).alloc _).alloc _).kept hk)
  have L1 := (((Loc.new _ [.string ByteArray.empty, .slice none 0 0, .slice none 0 0] 30).alloc _).kept hk)
  have L2 := (Loc.new _ [.string f0, .slice none 0 0, .slice none 0 0] 30).kept hk
  simp only [World.size_alloc] at L0 L1 L2 ho
  have hksz := hk.size
  simp at hksz
  obtain ⟨B, hB⟩ : ∃ B, w.heap.size = B := ⟨_, rfl⟩
  rw [hB] at L0 L1 L2 ho hksz
  rw [hB]
  have HO : Hid (TxtO w1 (B + 1 + 1 + 1) w1.heap.size (.slice a1 l.length c1) l) := ho
  have HK : Hid (Kept w w1) := K1
  have HL0 : Hid (Loc w1 B [.string f0, .slice ao l.length cap, .slice ap m.length cp]) := L0
  have HL1 : Hid (Loc w1 (B + 1) [.string ByteArray.empty, .slice none 0 0, .slice none 0 0]) := L1
  have HL2 : Hid (Loc w1 (B + 1 + 1) [.string f0, .slice none 0 0, .slice none 0 0]) := L2
  have x2 := L0.cell 2 rfl
  have y1 := L2.cell 1 rfl
  have yf := L2.frozen 1
  have xl := L0.lt
  have yl := L2.lt
  have HB : Hid (w.heap.size = B) := hB
  clear hk L0 L1 L2 ho K1 hv hB
  dsimp only
  repeat (first | go_values | go_skip | go_guarded | go_step | go_upon)
  go_at_call 95
  have K2 : Kept w (w1.setCell ⟨B + 1 + 1, 1, none⟩ (.slice a1 l.length c1)) := HK.out.setNew (by have := HB.out; dsimp only; omega) _
  refine (toBytS m _ _ (HV2.out.kept K2) hm).mono ?_
  rintro e w2 ⟨v2, rfl, ho2, hk2⟩
  obtain ⟨a2, c2, hf⟩ := ho2.form
  subst hf
  have KX : Kept w w2 := K2.trans hk2
  have bX : But (B + 1 + 1) (B + 1 + 1 + 1) w1 w2 := But.transK ((But.refl _ _ _).setCell (by simp) (by simp) _) hk2
  have hs2 := hk2.size
  simp at hs2
  have M1 := HL1.out.but bX (.inl (by omega))
  have M2 := (HL2.out.set 1 (.slice a1 l.length c1)).kept hk2
  have HO2 : Hid (TxtO w2 (B + 1 + 1 + 1) w1.heap.size (.slice a1 l.length c1) l) := HO.out.but bX (.inr (by omega))
  have HP2 : Hid (BytO w2 w1.heap.size w2.heap.size (.slice a2 m.length c2) m) := ho2.mono (by simp) (Nat.le_refl _)
  have HKX : Hid (Kept w w2) := KX
  clear ho2 hk2 K2 KX bX HL0 HL1 HL2 HO HK x2 y1 yf xl yl
  have p0 := M1.cell 0 rfl
  have p1 := M1.cell 1 rfl
  have p2 := M1.cell 2 rfl
  have pf0 := M1.frozen 0
  have pf1 := M1.frozen 1
  have pf2 := M1.frozen 2
  have q0 := M2.cell 0 rfl
  have q1 := M2.cell 1 rfl
  have q2 := M2.cell 2 rfl
  have qf := M2.frozen 2
  have ql := M2.lt
  clear M1 M2
  dsimp only
  repeat (first | go_values | go_skip | go_guarded | go_step | go_upon)
  have BB : But B (B + 3) w2 ((((w2.setCell ⟨B + 1 + 1, 2, none⟩ (.slice a2 m.length c2)).setCell ⟨B + 1, 0, none⟩ (.string f0)).setCell ⟨B + 1, 1, none⟩ (.slice a1 l.length c1)).setCell ⟨B + 1, 2, none⟩ (.slice a2 m.length c2)) := ((((But.refl _ _ _).setCell (by simp; try omega) (by simp; try omega) _).setCell (by simp; try omega) (by simp; try omega) _).setCell (by simp; try omega) (by simp; try omega) _).setCell (by simp; try omega) (by simp; try omega) _
  refine bodyPost_ret (v := .agg #[.string f0, .slice a1 l.length c1, .slice a2 m.length c2]) (by simp [results, Try.results57, go_sem, *]) rfl ?_
  have hsB := BB.size
  have hBB := HB.out
  refine ⟨_, _, rfl, (HO2.out.but BB (.inr (by omega))).mono (by omega) (by omega), (HP2.out.but BB (.inr (by omega))).mono (by omega) hsB, ?_⟩
  exact HKX.out.onto BB (by have := HB.out; omega)

theorem info30 : (Try.prog.info? 30).map (fun i => (i.zero, i.size, i.bytes)) = some (some (.agg #[.string ByteArray.empty, .slice none 0 0, .slice none 0 0]), 3, 64) := by kernel_rfl
/-- Rows whose lists lie apart from the row's own block, and from one another. -/
structure AssetR (w : World) (g n : Nat) (ys : List AssetE) : Prop where
  row : RowO w g (g + 1) 30 3 (.slice (some ⟨g, 0, none⟩) n n) ys.length (ys.flatMap assetC)
  innT : ∀ (i : Nat) (y : AssetE), ys[i]? = some y → TxtO w (g + 1) w.heap.size y.2.1.1 y.2.1.2
  innB : ∀ (i : Nat) (y : AssetE), ys[i]? = some y → BytO w (g + 1) w.heap.size y.2.2.1 y.2.2.2
  apT : ∀ (i j : Nat) (p p' : AssetE), i ≠ j → ys[i]? = some p → ys[j]? = some p' → Ap p.2.1.1 p'.2.1.1
  apB : ∀ (i j : Nat) (p p' : AssetE), i ≠ j → ys[i]? = some p → ys[j]? = some p' → Ap p.2.2.1 p'.2.2.1
theorem AssetR.kept {w w' : World} {g n : Nat} {ys : List AssetE} (h : AssetR w g n ys) (k : Kept w w') : AssetR w' g n ys := ⟨RowO.kept h.row k, fun i r hr => ((h.innT i r hr).kept k).mono (Nat.le_refl _) k.size, fun i r hr => ((h.innB i r hr).kept k).mono (Nat.le_refl _) k.size, h.apT, h.apB⟩
theorem AssetR.cells {w : World} {g n : Nat} {ys : List AssetE} (h : AssetR w g n ys) {i : Nat} {p : AssetE} (hp : ys[i]? = some p) :
    w.cell? ⟨g, i * 3, none⟩ = some (.string p.1) ∧ w.cell? ⟨g, i * 3 + 1, none⟩ = some (p.2.1.1) ∧ w.cell? ⟨g, i * 3 + 2, none⟩ = some (p.2.2.1) ∧ ∀ o, w.frozen? ⟨g, o, none⟩ = false := by
  obtain ⟨hc, hf⟩ := own_get 3 assetC assetC_len (by omega) h.row hp
  exact ⟨hc 0 _ rfl, hc 1 _ rfl, hc 2 _ rfl, hf⟩
theorem AssetR.setRow {w : World} {g n : Nat} {ys : List AssetE} (h : AssetR w g n ys) (hn : n = ys.length) {i : Nat} {p : AssetE} (hp : ys[i]? = some p) (q : AssetE) :
    RowO (((w.setCell ⟨g, i * 3, none⟩ (.string q.1)).setCell ⟨g, i * 3 + 1, none⟩ (q.2.1.1)).setCell ⟨g, i * 3 + 2, none⟩ (q.2.2.1)) g (g + 1) 30 3 (.slice (some ⟨g, 0, none⟩) n n) (ys.set i q).length ((ys.set i q).flatMap assetC) := by
  subst hn
  have hi' : i < ys.length := (List.getElem?_eq_some_iff.1 hp).1
  have r0 := RowO.set (h.row) (3 * i + 0) (.string q.1)
  rw [flat_set 3 assetC assetC_len ys i 0 p (q.1, p.2) (.string q.1) hp (by omega) rfl] at r0
  have g0 : (ys.set i (q.1, p.2))[i]? = some (q.1, p.2) := by simp [hi']
  have r1 := RowO.set (r0) (3 * i + 1) (q.2.1.1)
  rw [flat_set 3 assetC assetC_len (ys.set i (q.1, p.2)) i 1 (q.1, p.2) (q.1, q.2.1, p.2.2) (q.2.1.1) g0 (by omega) rfl] at r1
  have g1 : ((ys.set i (q.1, p.2)).set i (q.1, q.2.1, p.2.2))[i]? = some (q.1, q.2.1, p.2.2) := by simp [hi']
  have r2 := RowO.set (r1) (3 * i + 2) (q.2.2.1)
  rw [flat_set 3 assetC assetC_len ((ys.set i (q.1, p.2)).set i (q.1, q.2.1, p.2.2)) i 2 (q.1, q.2.1, p.2.2) q (q.2.2.1) g1 (by omega) rfl] at r2
  simp only [List.set_set] at r2
  rw [Nat.mul_comm i 3, List.length_set]
  exact r2

set_option maxHeartbeats 4000000 in
theorem toAssetS (ps : List AssetE) (v : Value) (w : World) (hv : AssetAt w v ps) (hl : ps.length ≤ 1048576) (hp : ∀ p ∈ ps, p.2.1.2.length ≤ 1048576 ∧ p.2.2.2.length ≤ 1048576) :
    Calls Try.prog 18 #[v] w fun e w' => ∃ v' ys, e = .returned v' ∧ ys.map stripA = ps.map stripA ∧ AssetO w' w.heap.size w'.heap.size v' ys ∧ Kept w w' := by
  obtain ⟨ao, cap, hsl⟩ := row_nil hv.1
  subst hsl
  obtain ⟨i0, hi, hz0, hz1, hz2⟩ := info_parts info30
  have hmk : (Instr.makeSlice 23 (.int .i64 (ps.length : Int)) (.int .i64 (ps.length : Int))).run Try.prog w = .ok (.slice (some ⟨w.heap.size, 0, none⟩) ps.length ps.length) (w.alloc (.cells (madeCells #[.string ByteArray.empty, .slice none 0 0, .slice none 0 0] (ps.length * 3)) 30)) := by
    have := run_make (P := Try.prog) w 23 30 i0 _ Try.underlying23 hi hz0 .i64 .i64 (ps.length : Int) (ps.length : Int) (by omega) (by omega) (by rw [hz2]; omega) (by omega)
    rw [this, hz1]
    simp [Value.cells]
  have hm := row_made w w.heap.size 30 #[.string ByteArray.empty, .slice none 0 0, .slice none 0 0] 3 (by omega) assetC asset0 assetC_len rfl ps.length (Nat.le_refl _) (by unfold maxLen; omega)
  clear hi hz0 hz1 hz2
  go_enter Try.func18, Try.ntmps18
  go_wp2
  clear hmk
  go_loopw [4] (fun i wr => ∃ (k : Nat) (ys : List AssetE), k ≤ ps.length ∧ i = .int .i64 k ∧ ys.length = ps.length ∧ ys.map stripA = (ps.take k ++ List.replicate (ps.length - k) asset0).map stripA ∧ AssetR wr w.heap.size ps.length ys ∧ Kept w wr) (fun i _ => ps.length - (intOf i).toNat)
  case atStart =>
    refine ⟨0, List.replicate ps.length asset0, by omega, rfl, by simp, by simp, ⟨by simpa using hm, fun i y hy => ?_, fun i y hy => ?_, fun i j y y' hij hy hy' => ?_, fun i j y y' hij hy hy' => ?_⟩, (But.refl _ _ _).alloc _⟩
    · obtain rfl : y = asset0 := List.eq_of_mem_replicate (List.mem_of_getElem? hy)
      exact ⟨World.ownsRow_nil _ _ _ _, fun g hg => by simp [asset0, Value.ownBlock] at hg⟩
    · obtain rfl : y = asset0 := List.eq_of_mem_replicate (List.mem_of_getElem? hy)
      exact ⟨World.ownsRow_nil _ _ _ _, fun g hg => by simp [asset0, Value.ownBlock] at hg⟩
    · obtain rfl : y = asset0 := List.eq_of_mem_replicate (List.mem_of_getElem? hy)
      exact fun g hg => by simp [asset0, Value.ownBlock] at hg
    · obtain rfl : y = asset0 := List.eq_of_mem_replicate (List.mem_of_getElem? hy)
      exact fun g hg => by simp [asset0, Value.ownBlock] at hg
  case round =>
    obtain ⟨k, ys, hk, rfl, hyl, hys, ho, hkp⟩ := hrel
    have HY : Hid (ys.length = ps.length ∧ ys.map stripA = (ps.take k ++ List.replicate (ps.length - k) asset0).map stripA) := ⟨hyl, hys⟩
    clear hm
    by_cases hlt : k < ps.length
    · obtain ⟨p, hpk⟩ : ∃ p, ps[k]? = some p := ⟨_, List.getElem?_eq_getElem hlt⟩
      obtain ⟨y, hy⟩ : ∃ y, ys[k]? = some y := ⟨_, List.getElem?_eq_getElem (by omega)⟩
      obtain ⟨b, o, cap', e, c0, c1, c2, hpt, hpb⟩ := asset_get (hv.kept hkp) hpk
      cases e
      have hpl := hp p (List.mem_of_getElem? hpk)
      have HPK : Hid (ps[k]? = some p) := hpk
      clear hyl hys hpk
      obtain ⟨y0, ⟨y1, l⟩, ⟨y2, m⟩⟩ := p
      dsimp only at hpt hpb hpl c0 c1 c2
      obtain ⟨ao3, cap3, hsl3⟩ := row_nil hpt
      subst hsl3
      obtain ⟨ao4, cap4, hsl4⟩ := row_nil hpb
      subst hsl4
      have hsz0 := hkp.size
      have hlt1 := own_lt ho.row.1 (g := w.heap.size) rfl
      go_wp2_with (go_at_call 57; refine (toAsset1 _ _ _ _ _ _ hpt hpb hpl.1 hpl.2).mono ?_
                   rintro e w' ⟨pv, qv, rfl, hpo, hqo, hk2⟩
                   obtain ⟨ao2, cap2, hf, _⟩ := own_form hpo.1
                   subst hf
                   obtain ⟨ao5, cap5, hf, _⟩ := own_form hqo.1
                   subst hf
                   have HAT : Hid (∀ (i : Nat) (r : AssetE), ys[i]? = some r → Ap r.2.1.1 (.slice ao2 l.length cap2)) := fun i r hr => ap_low ((ho.innT i r hr).kept hk2) hpo (.inl (by omega))
                   have HAB : Hid (∀ (i : Nat) (r : AssetE), ys[i]? = some r → Ap r.2.2.1 (.slice ao5 m.length cap5)) := fun i r hr => ap_low ((ho.innB i r hr).kept hk2) hqo (.inl (by omega))
                   have ho2 := ho.kept hk2
                   obtain ⟨d0, d1, d2, dz⟩ := ho2.cells hy
                   have dz0 := dz (k * 3)
                   have dz1 := dz (k * 3 + 1)
                   have dz2 := dz (k * 3 + 2)
                   have HO : Hid _ := ho2
                   have hs2 := hk2.size
                   have HPO : Hid _ := hpo
                   have HQO : Hid _ := hqo
                   clear dz ho ho2 hpo hqo)
      have HR := AssetR.setRow HO.out HY.out.1.symm hy (y0, (.slice ao2 l.length cap2, l), (.slice ao5 m.length cap5, m))
      have B : But w.heap.size (w.heap.size + 1) w' (((w'.setCell ⟨w.heap.size, k * 3, none⟩ (.string y0)).setCell ⟨w.heap.size, k * 3 + 1, none⟩ (.slice ao2 l.length cap2)).setCell ⟨w.heap.size, k * 3 + 2, none⟩ (.slice ao5 m.length cap5)) := (((But.refl _ _ _).setCell (by simp; try omega) (by simp; try omega) _).setCell (by simp; try omega) (by simp; try omega) _).setCell (by simp; try omega) (by simp; try omega) _
      refine ⟨⟨k + 1, ys.set k (y0, (.slice ao2 l.length cap2, l), (.slice ao5 m.length cap5, m)), hlt, by go_num, by simp [HY.out.1], ?_, ⟨HR, fun i z hz => ?_, fun i z hz => ?_, fun i j z z' hij hz hz' => ?_, fun i j z z' hij hz hz' => ?_⟩, (hkp.trans hk2).onto B (Nat.le_refl _)⟩, by simp [intOf]; omega⟩
      · rw [List.map_set, HY.out.2, ← fill_set ps asset0 HPK.out, List.map_set]
        rfl
      · rcases get_set hz with ⟨_, rfl⟩ | ⟨_, hz⟩
        · exact (HPO.out.but B (by omega)).mono (by omega) B.size
        · exact ((HO.out.innT i z hz).but B (by omega)).mono (Nat.le_refl _) B.size
      · rcases get_set hz with ⟨_, rfl⟩ | ⟨_, hz⟩
        · exact (HQO.out.but B (by omega)).mono (by omega) B.size
        · exact ((HO.out.innB i z hz).but B (by omega)).mono (Nat.le_refl _) B.size
      · rcases get_set hz with ⟨hik, rfl⟩ | ⟨hik, hz⟩
        · rcases get_set hz' with ⟨hjk, rfl⟩ | ⟨_, hz'⟩
          · exact absurd (hik.trans hjk.symm) hij
          · exact (HAT.out j z' hz').symm
        · rcases get_set hz' with ⟨_, rfl⟩ | ⟨_, hz'⟩
          · exact HAT.out i z hz
          · exact HO.out.apT i j z z' hij hz hz'
      · rcases get_set hz with ⟨hik, rfl⟩ | ⟨hik, hz⟩
        · rcases get_set hz' with ⟨hjk, rfl⟩ | ⟨_, hz'⟩
          · exact absurd (hik.trans hjk.symm) hij
          · exact (HAB.out j z' hz').symm
        · rcases get_set hz' with ⟨_, rfl⟩ | ⟨_, hz'⟩
          · exact HAB.out i z hz
          · exact HO.out.apB i j z z' hij hz hz'
    · have hke : k = ps.length := by omega
      subst hke
      have hsz := hkp.size
      go_wp2
      go_ret
      have hs := own_lt ho.row.1 (g := w.heap.size) rfl
      refine ⟨_, ys, rfl, ?_, ⟨?_, fun i y hy => (ho.innT i y hy).mono (by omega) (Nat.le_refl _), fun i y hy => (ho.innB i y hy).mono (by omega) (Nat.le_refl _), ho.apT, ho.apB⟩, hkp⟩
      · rw [HY.out.2]
        simp
      · have := RowO.low ho.row
        rw [HY.out.1] at this ⊢
        exact this

end Go.Proofs.Ytmoaihhllfkmiaa

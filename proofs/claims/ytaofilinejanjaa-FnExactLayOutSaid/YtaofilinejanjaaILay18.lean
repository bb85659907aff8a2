/-
  layKids.
-/
import Derived.Test.YtaofilinejanjaaLayT18
import Derived.Test.YtaofilinejanjaaShI18
import Derived.Test.YtaofilinejanjaaApp18
import Derived.Test.YtaofilinejanjaaGoodI18
namespace Go.Proofs.Ytaofilinejanjaa
open Go.ChangeShapes Go.WideShapes Go.ChangeAt Go.RowKit

set_option maxRecDepth 100000
set_option linter.unusedVariables false

set_option maxHeartbeats 32000000 in
theorem ilay (l : List BoxD) (ps : List PlacedD) (u : Nat) (M : Int) (vl vp : Value) (lo hi : Nat) (w : World) (hv : BoxAt w vl l) (hp : PlacedO w lo hi vp ps) (hhi : hi ≤ w.heap.size) (hl : BoxesP l) (hu : u < l.length) (hpl : ps.length = l.length) (hb : PB M ps) (hM : 0 ≤ M ∧ M ≤ 50000000) :
    Calls Try.prog 40 #[vl, .int .i64 (u : Int), vp] w fun e w' => e = .returned (.tuple #[]) ∧ PlacedO w' lo hi vp (layB l ps u) ∧ But lo hi w w' := by
  obtain ⟨ao, cap, hsl⟩ := row_nil hv
  subst hsl
  obtain ⟨pp, hpp⟩ : ∃ p, ps[u]? = some p := ⟨_, List.getElem?_eq_getElem (by omega)⟩
  obtain ⟨bx, hbx⟩ : ∃ b, l[u]? = some b := ⟨_, List.getElem?_eq_getElem hu⟩
  have HBO := hl.2.2 u hu bx hbx
  have HPB := hb pp (List.mem_of_getElem? hpp)
  have h40 := hl.2.1
  have HLB0 : Hid (layB l ps u = layN bx.2.1 (padP pp bx.2.2.2.2) (kids l u l.length) (shA (roomL bx.2.1 (padP pp bx.2.2.2.2)) (leasts l u l.length) (grows l u l.length)) ps (kids l u l.length).length) := layB_at hbx hpp
  have HV : Hid (BoxAt w (.slice ao l.length cap) l) := hv
  have HP : Hid (PlacedO w lo hi vp ps) := hp
  have HL : Hid (BoxesP l) := hl
  obtain ⟨ap, cq, hfp⟩ := hp.form
  subst hfp
  have HIN : Hid (ps[u]? = some pp ∧ l[u]? = some bx ∧ ps.length = l.length) := ⟨hpp, hbx, hpl⟩
  have hul : u ≤ 40 := by omega
  clear hv hp hl hpp hbx hb hpl
  go_enter Try.func40, Try.ntmps40
  repeat (first | go_values | go_skip | go_guarded | go_step | go_upon)
  go_loopw [6, 7, 8, 17] (fun x6 x7 x8 i wr => ∃ (k : Nat) (K6 K7 K8 : List Int), k ≤ l.length ∧ i = .int .i64 (k : Int) ∧ Hid (kids l u k = K6 ∧ leasts l u k = K7 ∧ grows l u k = K8) ∧ NumO wr w.heap.size wr.heap.size x6 K6 ∧ NumO wr w.heap.size wr.heap.size x7 K7 ∧ NumO wr w.heap.size wr.heap.size x8 K8 ∧ Ap x6 x7 ∧ Ap x6 x8 ∧ Ap x7 x8 ∧ Kept w wr) (fun x6 x7 x8 i _ => l.length - (intOf i).toNat)
  case atStart => exact ⟨0, [], [], [], by omega, rfl, ⟨rfl, rfl, rfl⟩, nil_num _ _ _, nil_num _ _ _, nil_num _ _ _, (fun g hg => by simp [Value.ownBlock] at hg), (fun g hg => by simp [Value.ownBlock] at hg), (fun g hg => by simp [Value.ownBlock] at hg), But.refl _ _ _⟩
  case round =>
    obtain ⟨k, K6, K7, K8, hk, rfl, HKS, o6, o7, o8, p67, p68, p78, hkp⟩ := hrel
    obtain ⟨a6, c6, hf, _⟩ := own_form o6.1
    subst hf
    obtain ⟨a7, c7, hf, _⟩ := own_form o7.1
    subst hf
    obtain ⟨a8, c8, hf, _⟩ := own_form o8.1
    subst hf
    have hkl := kids_len l u k
    rw [HKS.out.1, HKS.out.2.1, HKS.out.2.2] at hkl
    have HLN : Hid (K6.length ≤ 1000 ∧ K7.length ≤ 1000 ∧ K8.length ≤ 1000) := by show _ ∧ _ ∧ _; omega
    have H6 : Hid (NumO wr w.heap.size wr.heap.size (.slice a6 K6.length c6) K6) := o6
    have H7 : Hid (NumO wr w.heap.size wr.heap.size (.slice a7 K7.length c7) K7) := o7
    have H8 : Hid (NumO wr w.heap.size wr.heap.size (.slice a8 K8.length c8) K8) := o8
    have HAP : Hid (Ap (.slice a6 K6.length c6) (.slice a7 K7.length c7) ∧ Ap (.slice a6 K6.length c6) (.slice a8 K8.length c8) ∧ Ap (.slice a7 K7.length c7) (.slice a8 K8.length c8)) := ⟨p67, p68, p78⟩
    have HK : Hid (Kept w wr) := hkp
    have hwr := hkp.size
    clear o6 o7 o8 p67 p68 p78 hkl
    by_cases hlt : k < l.length
    · obtain ⟨d, hd⟩ : ∃ d, l[k]? = some d := ⟨_, List.getElem?_eq_getElem hlt⟩
      obtain ⟨b, o, cap', ee, e0, e1, e2, e3, e4⟩ := box_get (HV.out.kept hkp) hd
      cases ee
      have HD : Hid (l[k]? = some d) := hd
      obtain ⟨d0, d1, d2, d3, d4⟩ := d
      dsimp only at e0 e1 e2 e3 e4
      clear hd hkp
      by_cases hdu : d0 = (u : Int)
      · have dq : (d0 == (u : Int)) = true := by simp [hdu]
        have HN := kids_yes HD.out hdu
        rw [HKS.out.1, HKS.out.2.1, HKS.out.2.2] at HN
        have HN1 : Hid (kids l u (k + 1) = K6 ++ [(k : Int)] ∧ leasts l u (k + 1) = K7 ++ [d2] ∧ grows l u (k + 1) = K8 ++ [d3]) := HN
        clear hdu HN HKS
        repeat (first | go_values | go_skip | go_guarded | go_step | go_upon)
        obtain ⟨BB, hBB⟩ : ∃ BB, wr.heap.size = BB := ⟨_, rfl⟩
        obtain ⟨W, hW⟩ : ∃ W, wr.alloc (.cells #[.int .i64 d0, .int .i64 d1, .int .i64 d2, .int .i64 d3, .int .i64 d4] 52) = W := ⟨_, rfl⟩
        have hlb : Loc W BB [.int .i64 d0, .int .i64 d1, .int .i64 d2, .int .i64 d3, .int .i64 d4] := by rw [← hW, ← hBB]; exact Loc.new wr [.int .i64 d0, .int .i64 d1, .int .i64 d2, .int .i64 d3, .int .i64 d4] 52
        have hkw : Kept wr W := by rw [← hW]; exact (But.refl _ _ _).alloc _
        have hwz : W.heap.size = BB + 1 := by rw [← hW, ← hBB]; simp
        rw [hBB, hW]
        have HLB : Hid (Loc W BB [.int .i64 d0, .int .i64 d1, .int .i64 d2, .int .i64 d3, .int .i64 d4]) := hlb
        have HKW : Hid (Kept wr W) := hkw
        have HWZ : Hid (W.heap.size = BB + 1 ∧ w.heap.size ≤ BB) := ⟨hwz, by omega⟩
        have HBBL : Hid (BB < W.heap.size) := show _ < _ from by omega
        have hrow : ∀ (a : Option Addr) (c : Nat) (K : List Int), NumO wr w.heap.size wr.heap.size (.slice a K.length c) K → NumO W.drew w.heap.size W.drew.heap.size (.slice a K.length c) K ∧ (Value.slice a K.length c).ownBlock ≠ some BB := fun a c K h => ⟨(h.kept (hkw.drew)).low, fun e => by
          have := (h.1.lt _ e).2
          omega⟩
        have H6' := hrow _ _ _ H6.out
        have H7' := hrow _ _ _ H7.out
        have H8' := hrow _ _ _ H8.out
        have H6 : Hid (NumO W.drew w.heap.size W.drew.heap.size (.slice a6 K6.length c6) K6) := H6'.1
        have H7 : Hid (NumO W.drew w.heap.size W.drew.heap.size (.slice a7 K7.length c7) K7) := H7'.1
        have H8 : Hid (NumO W.drew w.heap.size W.drew.heap.size (.slice a8 K8.length c8) K8) := H8'.1
        have HNB : Hid (∀ c, (vv3 (.slice a6 K6.length c6) (.slice a7 K7.length c7) (.slice a8 K8.length c8) c).ownBlock ≠ some BB) := fun c => by
          match c with
          | 0 => exact H6'.2
          | 1 => exact H7'.2
          | 2 => exact H8'.2
        have HAPS : Hid (∀ c e, c ≠ e → Ap (vv3 (.slice a6 K6.length c6) (.slice a7 K7.length c7) (.slice a8 K8.length c8) c) (vv3 (.slice a6 K6.length c6) (.slice a7 K7.length c7) (.slice a8 K8.length c8) e)) := fun c e hce => by
          match c, e with
          | 0, 0 => exact absurd rfl hce
          | 0, 1 => exact HAP.out.1
          | 0, 2 => exact HAP.out.2.1
          | 1, 0 => exact HAP.out.1.symm
          | 1, 1 => exact absurd rfl hce
          | 1, 2 => exact HAP.out.2.2
          | 2, 0 => exact HAP.out.2.1.symm
          | 2, 1 => exact HAP.out.2.2.symm
          | 2, 2 => exact absurd rfl hce
        clear hBB hW hlb hkw hwz hrow H6' H7' H8' e0 e1 e2 e3 e4
        refine wp_region_Z (fun W' => Loc W' BB [.int .i64 d0, .int .i64 d1, .int .i64 d2, .int .i64 d3, .int .i64 d4]) 99 (by kernel_rfl) ?_
        have hS : (fun W' => Loc W' BB [.int .i64 d0, .int .i64 d1, .int .i64 d2, .int .i64 d3, .int .i64 d4]) W.drew := HLB.out.kept ((But.refl _ _ W).drew)
        refine wpAnyZ_take (i := 0) (v := .slice a6 K6.length c6) rfl (by kernel_rfl) (by kernel_rfl) (by kernel_rfl) (by kernel_rfl) (fun _ _ _ h => h) (Or.inl ⟨by rfl, ?_⟩) hS ?_
        · intro w' hSw; have s2 := Loc.cell hSw 2 rfl; have s3 := Loc.cell hSw 3 rfl; go_simp
        try simp only [Act.put]
        refine wpAnyZ_take (i := 1) (v := .int .i64 (k : Int)) rfl (by kernel_rfl) (by kernel_rfl) (by kernel_rfl) (by kernel_rfl) (fun _ _ _ h => h) (Or.inl ⟨by rfl, ?_⟩) hS ?_
        · intro w' hSw; have s2 := Loc.cell hSw 2 rfl; have s3 := Loc.cell hSw 3 rfl; go_simp
        try simp only [Act.put]
        refine wpAnyZ_take (i := 4) (v := .slice a7 K7.length c7) rfl (by kernel_rfl) (by kernel_rfl) (by kernel_rfl) (by kernel_rfl) (fun _ _ _ h => h) (Or.inl ⟨by rfl, ?_⟩) hS ?_
        · intro w' hSw; have s2 := Loc.cell hSw 2 rfl; have s3 := Loc.cell hSw 3 rfl; go_simp
        try simp only [Act.put]
        refine wpAnyZ_take (i := 5) (v := .pointer (some ⟨BB, 2, none⟩)) rfl (by kernel_rfl) (by kernel_rfl) (by kernel_rfl) (by kernel_rfl) (fun _ _ _ h => h) (Or.inl ⟨by rfl, ?_⟩) hS ?_
        · intro w' hSw; have s2 := Loc.cell hSw 2 rfl; have s3 := Loc.cell hSw 3 rfl; go_simp
        try simp only [Act.put]
        refine wpAnyZ_take (i := 6) (v := .int .i64 d2) rfl (by kernel_rfl) (by kernel_rfl) (by kernel_rfl) (by kernel_rfl) (fun _ _ _ h => h) (Or.inl ⟨by rfl, ?_⟩) hS ?_
        · intro w' hSw; have s2 := Loc.cell hSw 2 rfl; have s3 := Loc.cell hSw 3 rfl; go_simp
        try simp only [Act.put]
        refine wpAnyZ_take (i := 9) (v := .slice a8 K8.length c8) rfl (by kernel_rfl) (by kernel_rfl) (by kernel_rfl) (by kernel_rfl) (fun _ _ _ h => h) (Or.inl ⟨by rfl, ?_⟩) hS ?_
        · intro w' hSw; have s2 := Loc.cell hSw 2 rfl; have s3 := Loc.cell hSw 3 rfl; go_simp
        try simp only [Act.put]
        refine wpAnyZ_take (i := 10) (v := .pointer (some ⟨BB, 3, none⟩)) rfl (by kernel_rfl) (by kernel_rfl) (by kernel_rfl) (by kernel_rfl) (fun _ _ _ h => h) (Or.inl ⟨by rfl, ?_⟩) hS ?_
        · intro w' hSw; have s2 := Loc.cell hSw 2 rfl; have s3 := Loc.cell hSw 3 rfl; go_simp
        try simp only [Act.put]
        refine wpAnyZ_take (i := 11) (v := .int .i64 d3) rfl (by kernel_rfl) (by kernel_rfl) (by kernel_rfl) (by kernel_rfl) (fun _ _ _ h => h) (Or.inl ⟨by rfl, ?_⟩) hS ?_
        · intro w' hSw; have s2 := Loc.cell hSw 2 rfl; have s3 := Loc.cell hSw 3 rfl; go_simp
        try simp only [Act.put]
        refine listedZ (l' := lst fun _ => 0) (by kernel_rfl) ?_
        refine three0 (S := (fun W' => Loc W' BB [.int .i64 d0, .int .i64 d1, .int .i64 d2, .int .i64 d3, .int .i64 d4])) (lo := w.heap.size) (bb := BB) (x := xx3 (k : Int) d2 d3) (L := ll3 K6 K7 K8) (cur := vv3 (.slice a6 K6.length c6) (.slice a7 K7.length c7) (.slice a8 K8.length c8)) ?_ ?_ ?_ ?_ ?_ ?_ ?_ ?_ ?_ ?_ ?_ ?_ hS ?_
        · exact six_of (by kernel_rfl) rfl rfl rfl rfl rfl rfl ⟨rfl, rfl, rfl⟩ ⟨rfl, rfl, rfl⟩ ⟨rfl, rfl, rfl⟩ ⟨rfl, rfl, rfl⟩ ⟨rfl, rfl, rfl⟩ ⟨rfl, rfl, rfl⟩
        · simp
        · have := HWZ.out; show w.heap.size ≤ W.heap.size; omega
        · exact fun a b hk h => h.kept hk
        · exact fun a b lo hi hk ho h => h.but hk ho
        · intro c
          match c with
          | 0 => exact HLN.out.1
          | 1 => exact HLN.out.2.1
          | 2 => exact HLN.out.2.2
        · intro c
          match c with
          | 0 => exact H6.out
          | 1 => exact H7.out
          | 2 => exact H8.out
        · exact HAPS.out
        · exact HNB.out
        · exact HBBL.out
        · intro c
          match c with
          | 0 => simp [sS, fn3, vv3]
          | 1 => simp [sS, fn3, vv3]
          | 2 => simp [sS, fn3, vv3]
        · intro c
          match c with
          | 0 => simp [sX, fn3, xx3]
          | 1 => simp [sX, fn3, xx3]
          | 2 => simp [sX, fn3, xx3]
        · intro cur g a9 w9 hst
          obtain ⟨b0, b1, b2, rfl⟩ := hst.act (by simp)
          have R6 := hst.row 0
          have R7 := hst.row 1
          have R8 := hst.row 2
          have P67 := hst.ap 0 1 (by decide)
          have P68 := hst.ap 0 2 (by decide)
          have P78 := hst.ap 1 2 (by decide)
          have BW := hst.but
          have hSf := hst.sS
          simp only [if_true, ll3, xx3] at R6 R7 R8
          obtain ⟨r6, hr6⟩ : ∃ r, cur 0 = r := ⟨_, rfl⟩
          obtain ⟨r7, hr7⟩ : ∃ r, cur 1 = r := ⟨_, rfl⟩
          obtain ⟨r8, hr8⟩ : ∃ r, cur 2 = r := ⟨_, rfl⟩
          rw [hr6] at R6 P67 P68
          rw [hr7] at R7 P67 P78
          rw [hr8] at R8 P68 P78
          rw [hr6, hr7, hr8]
          clear hst hr6 hr7 hr8
          try simp only [Act.put]
          refine wpAnyZ_take (i := 14) (v := r6) rfl (by kernel_rfl) (by kernel_rfl) (by kernel_rfl) (by kernel_rfl) (fun _ _ _ h => h) (Or.inl ⟨by rfl, ?_⟩) hSf ?_
          · intro w' hSw; go_simp
          try simp only [Act.put]
          refine wpAnyZ_take (i := 15) (v := r7) rfl (by kernel_rfl) (by kernel_rfl) (by kernel_rfl) (by kernel_rfl) (fun _ _ _ h => h) (Or.inl ⟨by rfl, ?_⟩) hSf ?_
          · intro w' hSw; go_simp
          try simp only [Act.put]
          refine wpAnyZ_take (i := 16) (v := r8) rfl (by kernel_rfl) (by kernel_rfl) (by kernel_rfl) (by kernel_rfl) (fun _ _ _ h => h) (Or.inl ⟨by rfl, ?_⟩) hSf ?_
          · intro w' hSw; go_simp
          try simp only [Act.put]
          refine wpAnyZ_done (by kernel_rfl) ?_ _
          have KW9 : Kept w w9 := by
            have k0 : Kept w W.drew := (HK.out.trans HKW.out).drew
            exact But.onto k0 BW (Nat.le_refl _)
          have H6 : Hid (NumO w9 w.heap.size w9.heap.size r6 (K6 ++ [(k : Int)])) := R6
          have H7 : Hid (NumO w9 w.heap.size w9.heap.size r7 (K7 ++ [d2])) := R7
          have H8 : Hid (NumO w9 w.heap.size w9.heap.size r8 (K8 ++ [d3])) := R8
          have HAP9 : Hid (Ap r6 r7 ∧ Ap r6 r8 ∧ Ap r7 r8) := ⟨P67, P68, P78⟩
          have HK9 : Hid (Kept w w9) := KW9
          clear R6 R7 R8 P67 P68 P78 BW hSf KW9 hS
          repeat (first | go_values | go_skip | go_guarded | go_step | go_upon)
          exact ⟨⟨k + 1, _, _, _, hlt, by go_num, HN1, H6.out, H7.out, H8.out, HAP9.out.1, HAP9.out.2.1, HAP9.out.2.2, HK9.out⟩, by simp [intOf]; omega⟩
      · have dq : (d0 == (u : Int)) = false := by simp [hdu]
        have HN := kids_no HD.out hdu
        rw [HKS.out.1, HKS.out.2.1, HKS.out.2.2] at HN
        have HN1 : Hid (kids l u (k + 1) = K6 ∧ leasts l u (k + 1) = K7 ∧ grows l u (k + 1) = K8) := HN
        clear hdu HN HKS
        repeat (first | go_values | go_skip | go_guarded | go_step | go_upon)
        have KA := (But.refl 0 0 wr).alloc (.cells #[.int .i64 d0, .int .i64 d1, .int .i64 d2, .int .i64 d3, .int .i64 d4] 52)
        exact ⟨⟨k + 1, K6, K7, K8, hlt, by go_num, HN1, (H6.out.kept KA).low, (H7.out.kept KA).low, (H8.out.kept KA).low, HAP.out.1, HAP.out.2.1, HAP.out.2.2, HK.out.trans KA⟩, by simp [intOf]; omega⟩
    · have hke : k = l.length := by omega
      subst hke
      have hkN := kids_len l u l.length
      have hkI := kids_in l u l.length
      have HSP := kids_shP HL.out (u : Int) (Nat.le_refl l.length)
      rw [HKS.out.1, HKS.out.2.1, HKS.out.2.2] at hkN
      rw [HKS.out.1] at hkI
      rw [HKS.out.2.1, HKS.out.2.2] at HSP
      have HLE : Hid (layB l ps u = layN bx.2.1 (padP pp bx.2.2.2.2) K6 (shA (roomL bx.2.1 (padP pp bx.2.2.2.2)) K7 K8) ps K6.length) := show _ = _ from by rw [HLB0.out, HKS.out.1, HKS.out.2.1, HKS.out.2.2]
      have HKL : Hid (K6.length ≤ l.length ∧ K7.length = K6.length ∧ K8.length = K6.length ∧ (∀ x ∈ K6, 0 ≤ x ∧ x < (l.length : Int)) ∧ ShP K7 K8) := ⟨hkN.1, hkN.2.1, hkN.2.2, hkI, HSP⟩
      obtain ⟨b, o, cap', ee, e0, e1, e2, e3, e4⟩ := box_get (HV.out.kept hkp) HIN.out.2.1
      cases ee
      have hpo := HP.out.kept hkp
      obtain ⟨G, hG⟩ : ∃ G, ap = some ⟨G, 0, none⟩ := by
        rcases hpo.1.2 with ⟨hf, h0⟩ | ⟨g, c2, cur, hf, _⟩
        · have := (List.getElem?_eq_some_iff.1 HIN.out.1).1
          omega
        · injection hf with h1
          exact ⟨g, h1⟩
      subst hG
      obtain ⟨q0, q1, q2, q3, qz⟩ := hpo.cells HIN.out.1
      have hGin := hpo.2 G rfl
      have HGI : Hid (lo ≤ G ∧ G < hi) := by
        have h1 := (own_lt hpo.1 (g := G) rfl).1
        show _ ∧ _
        exact ⟨h1, hGin⟩
      obtain ⟨x0, x1, x2, x3, x4⟩ := bx
      obtain ⟨p0, p1, p2, p3⟩ := pp
      dsimp only at e0 e1 e2 e3 e4 q0 q1 q2 q3 HBO HPB HLE
      have HPD := pad_bd (M := M) (p := (p0, p1, p2, p3)) (pad := x4) HPB HBO.2.2.2.2.2
      obtain ⟨⟨r0, r1, r2, r3⟩, hr⟩ : ∃ r : PlacedD, padP (p0, p1, p2, p3) x4 = r := ⟨_, rfl⟩
      obtain ⟨⟨R0, R1, R2, R3⟩, hR⟩ : ∃ r : PlacedD, asP x1 (r0, r1, r2, r3) = r := ⟨_, rfl⟩
      rw [hr] at HPD HLE
      dsimp only at HPD
      have hRR : R2 = roomL x1 (r0, r1, r2, r3) := by have := asP_room x1 (r0, r1, r2, r3); rw [hR] at this; exact this
      have HRB : (0 ≤ R0 ∧ R0 ≤ M + 100) ∧ (0 ≤ R2 ∧ R2 ≤ 10000) := by
        by_cases hx : x1 = 2
        · have h1 := hR
          rw [asP, if_pos hx] at h1
          simp only [Prod.mk.injEq] at h1
          omega
        · have h1 := hR
          rw [asP, if_neg hx] at h1
          simp only [Prod.mk.injEq] at h1
          omega
      have C1 : Hid (∀ W, Kept wr W → Calls Try.prog 51 #[.agg #[.int .i64 p0, .int .i64 p1, .int .i64 p2, .int .i64 p3], .int .i64 x4] W fun e w' => e = .returned (.agg #[.int .i64 r0, .int .i64 r1, .int .i64 r2, .int .i64 r3]) ∧ Kept W w') := fun W _ => by
        have := iwithin p0 p1 p2 p3 x4 W ⟨HPB.1.1, by omega⟩ ⟨HPB.2.1.1, by omega⟩ HPB.2.2.1 HPB.2.2.2 HBO.2.2.2.2.2
        rw [hr] at this
        exact this
      have C2 : Hid (∀ W, Calls Try.prog 50 #[.agg #[.int .i64 r0, .int .i64 r1, .int .i64 r2, .int .i64 r3], .int .i64 x1] W fun e w' => e = .returned (.agg #[.int .i64 R0, .int .i64 R1, .int .i64 R2, .int .i64 R3]) ∧ Kept W w') := fun W => by
        have := iasRow r0 r1 r2 r3 x1 W
        rw [hR] at this
        exact this
      have HRR : Hid (R2 = roomL x1 (r0, r1, r2, r3) ∧ asP x1 (r0, r1, r2, r3) = (R0, R1, R2, R3) ∧ ((0 ≤ R0 ∧ R0 ≤ M + 100) ∧ (0 ≤ R2 ∧ R2 ≤ 10000))) := ⟨hRR, hR, HRB⟩
      rw [← hRR] at HLE
      have hbl : b < wr.heap.size := World.block_lt_of_cell? _ _ e4
      have hGl : G < wr.heap.size := World.block_lt_of_cell? _ _ q0
      have y0 : (0 : Int) ≤ (u : Int) := by omega
      have y1 : (u : Int) < (l.length : Int) := by omega
      have y2 : (u : Int) < (ps.length : Int) := by have := HIN.out.2.2; omega
      have HB1 : Hid (0 ≤ M ∧ M ≤ 50000000) := hM
      clear hkN hkI HSP hpo qz hGin HPD hr hR hRR HRB HBO HPB HKS hkp hk hM HLN
      repeat (first | go_values | go_skip | go_guarded | go_step | go_upon)
      refine wp_region_Z (fun W' => Kept wr W') 99 (by kernel_rfl) ?_
      have hS : (fun W' => Kept wr W') wr.drew := (But.refl _ _ wr).drew
      refine wpAnyZ_take (i := 0) (v := .slice (some ⟨G, 0, none⟩) ps.length cq) rfl (by kernel_rfl) (by kernel_rfl) (by kernel_rfl) (by kernel_rfl) (fun _ _ _ h => h) (Or.inl ⟨by rfl, ?_⟩) hS ?_
      · intro w' hSw; have s0 := Kept.cell hSw q0; have s1 := Kept.cell hSw q1; have s2 := Kept.cell hSw q2; have s3 := Kept.cell hSw q3; have s4 := Kept.cell hSw e4; go_simp
      try simp only [Act.put]
      refine wpAnyZ_take (i := 1) (v := .int .i64 (u : Int)) rfl (by kernel_rfl) (by kernel_rfl) (by kernel_rfl) (by kernel_rfl) (fun _ _ _ h => h) (Or.inl ⟨by rfl, ?_⟩) hS ?_
      · intro w' hSw; have s0 := Kept.cell hSw q0; have s1 := Kept.cell hSw q1; have s2 := Kept.cell hSw q2; have s3 := Kept.cell hSw q3; have s4 := Kept.cell hSw e4; go_simp
      try simp only [Act.put]
      refine wpAnyZ_take (i := 2) (v := .pointer (some ⟨G, u * 4, none⟩)) rfl (by kernel_rfl) (by kernel_rfl) (by kernel_rfl) (by kernel_rfl) (fun _ _ _ h => h) (Or.inl ⟨by rfl, ?_⟩) hS ?_
      · intro w' hSw; have s0 := Kept.cell hSw q0; have s1 := Kept.cell hSw q1; have s2 := Kept.cell hSw q2; have s3 := Kept.cell hSw q3; have s4 := Kept.cell hSw e4; go_simp
      try simp only [Act.put]
      refine wpAnyZ_take (i := 3) (v := .agg #[.int .i64 p0, .int .i64 p1, .int .i64 p2, .int .i64 p3]) rfl (by kernel_rfl) (by kernel_rfl) (by kernel_rfl) (by kernel_rfl) (fun _ _ _ h => h) (Or.inl ⟨by rfl, ?_⟩) hS ?_
      · intro w' hSw; have s0 := Kept.cell hSw q0; have s1 := Kept.cell hSw q1; have s2 := Kept.cell hSw q2; have s3 := Kept.cell hSw q3; have s4 := Kept.cell hSw e4; go_simp
      try simp only [Act.put]
      refine wpAnyZ_take (i := 4) (v := .slice (some ⟨b, o, none⟩) l.length cap) rfl (by kernel_rfl) (by kernel_rfl) (by kernel_rfl) (by kernel_rfl) (fun _ _ _ h => h) (Or.inl ⟨by rfl, ?_⟩) hS ?_
      · intro w' hSw; have s0 := Kept.cell hSw q0; have s1 := Kept.cell hSw q1; have s2 := Kept.cell hSw q2; have s3 := Kept.cell hSw q3; have s4 := Kept.cell hSw e4; go_simp
      try simp only [Act.put]
      refine wpAnyZ_take (i := 5) (v := .int .i64 (u : Int)) rfl (by kernel_rfl) (by kernel_rfl) (by kernel_rfl) (by kernel_rfl) (fun _ _ _ h => h) (Or.inl ⟨by rfl, ?_⟩) hS ?_
      · intro w' hSw; have s0 := Kept.cell hSw q0; have s1 := Kept.cell hSw q1; have s2 := Kept.cell hSw q2; have s3 := Kept.cell hSw q3; have s4 := Kept.cell hSw e4; go_simp
      try simp only [Act.put]
      refine wpAnyZ_take (i := 6) (v := .pointer (some ⟨b, o + u * 5, none⟩)) rfl (by kernel_rfl) (by kernel_rfl) (by kernel_rfl) (by kernel_rfl) (fun _ _ _ h => h) (Or.inl ⟨by rfl, ?_⟩) hS ?_
      · intro w' hSw; have s0 := Kept.cell hSw q0; have s1 := Kept.cell hSw q1; have s2 := Kept.cell hSw q2; have s3 := Kept.cell hSw q3; have s4 := Kept.cell hSw e4; go_simp
      try simp only [Act.put]
      refine wpAnyZ_take (i := 7) (v := .pointer (some ⟨b, o + u * 5 + 4, none⟩)) rfl (by kernel_rfl) (by kernel_rfl) (by kernel_rfl) (by kernel_rfl) (fun _ _ _ h => h) (Or.inl ⟨by rfl, ?_⟩) hS ?_
      · intro w' hSw; have s0 := Kept.cell hSw q0; have s1 := Kept.cell hSw q1; have s2 := Kept.cell hSw q2; have s3 := Kept.cell hSw q3; have s4 := Kept.cell hSw e4; go_simp
      try simp only [Act.put]
      refine wpAnyZ_take (i := 8) (v := .int .i64 x4) rfl (by kernel_rfl) (by kernel_rfl) (by kernel_rfl) (by kernel_rfl) (fun _ _ _ h => h) (Or.inl ⟨by rfl, ?_⟩) hS ?_
      · intro w' hSw; have s0 := Kept.cell hSw q0; have s1 := Kept.cell hSw q1; have s2 := Kept.cell hSw q2; have s3 := Kept.cell hSw q3; have s4 := Kept.cell hSw e4; go_simp
      try simp only [Act.put]
      refine wpAnyZ_take (i := 10) (v := .int .i64 x1) rfl (by kernel_rfl) (by kernel_rfl) (by kernel_rfl) (by kernel_rfl) (fun _ _ _ h => h) (Or.inl ⟨by rfl, ?_⟩) hS ?_
      · intro w' hSw; have s0 := Kept.cell hSw q0; have s1 := Kept.cell hSw q1; have s2 := Kept.cell hSw q2; have s3 := Kept.cell hSw q3; have s4 := Kept.cell hSw e4; go_simp
      try simp only [Act.put]
      refine listedZ (l' := lst8 0 0) (by kernel_rfl) ?_
      refine room80 (V1 := .agg #[.int .i64 r0, .int .i64 r1, .int .i64 r2, .int .i64 r3]) (V2 := .agg #[.int .i64 R0, .int .i64 R1, .int .i64 R2, .int .i64 R3]) (P := .agg #[.int .i64 p0, .int .i64 p1, .int .i64 p2, .int .i64 p3]) (pad := .int .i64 x4) (lay := .int .i64 x1) ?_ ?_ hS C1.out C2.out ?_ ?_ ?_ ?_
      · exact ops8_of (by kernel_rfl) rfl rfl rfl ⟨rfl, rfl, rfl⟩ ⟨rfl, rfl, rfl⟩ ⟨rfl, rfl, rfl⟩
      · simp
      · simp
      · simp
      · simp
      · intro B a9 w9 h8
        have hae := h8.act (by simp)
        subst hae
        have k9 := h8.k
        obtain ⟨_, L9, hB9⟩ := h8.rb rfl
        clear h8
        try simp only [Act.put]
        have U0 := L9
        have u0 := U0.cell 0 rfl
        have f0 := U0.frozen 0
        have U1 := U0.set 0 (.int .i64 R0)
        simp only [List.set_cons_zero] at U1
        have u1 := U1.cell 1 rfl
        have f1 := U1.frozen 1
        have U2 := U1.set 1 (.int .i64 R1)
        simp only [List.set_cons_zero, List.set_cons_succ] at U2
        have u2 := U2.cell 2 rfl
        have f2 := U2.frozen 2
        have U3 := U2.set 2 (.int .i64 R2)
        simp only [List.set_cons_zero, List.set_cons_succ] at U3
        have u3 := U3.cell 3 rfl
        have f3 := U3.frozen 3
        have U4 := U3.set 3 (.int .i64 R3)
        simp only [List.set_cons_zero, List.set_cons_succ] at U4
        have HU4 : Hid (Loc ((((w9.setCell ⟨B, 0, none⟩ (.int .i64 R0)).setCell ⟨B, 1, none⟩ (.int .i64 R1)).setCell ⟨B, 2, none⟩ (.int .i64 R2)).setCell ⟨B, 3, none⟩ (.int .i64 R3)) B [.int .i64 R0, .int .i64 R1, .int .i64 R2, .int .i64 R3]) := U4
        have HK4 : Hid (Kept wr ((((w9.setCell ⟨B, 0, none⟩ (.int .i64 R0)).setCell ⟨B, 1, none⟩ (.int .i64 R1)).setCell ⟨B, 2, none⟩ (.int .i64 R2)).setCell ⟨B, 3, none⟩ (.int .i64 R3))) := (((k9.setNew hB9 _).setNew hB9 _).setNew hB9 _).setNew hB9 _
        have HB9 : Hid (wr.heap.size ≤ B) := hB9
        clear U0 U1 U2 U3 U4 L9
        refine wpAnyZ_one (i := 13) (by kernel_rfl) rfl ?_
        intro K9 hK9
        rw [if_pos (by rfl)]
        go_simp
        refine hK9.out _ _ (fun _ => HK4.out) ?_
        clear hK9 K9 u0 u1 u2 u3 f0 f1 f2 f3
        refine wpAnyZ_done (by kernel_rfl) ?_ _
        try simp only [Act.put]
        refine forgetX (fun W => Loc W B [.int .i64 R0, .int .i64 R1, .int .i64 R2, .int .i64 R3] ∧ Kept wr W) ⟨HU4.out, HK4.out⟩ ?_
        clear HU4 HK4 k9 hB9 hS
        rintro WQ ⟨hLW, hKW⟩
        have HKRW : Hid (Kept wr WQ) := hKW
        have g2 := hLW.cell 2 rfl
        have gl := hLW.lt
        have hwsz := hKW.size
        have HLW : Hid (Loc WQ B [.int .i64 R0, .int .i64 R1, .int .i64 R2, .int .i64 R3]) := hLW
        have HSHC : Hid (∀ W', Kept WQ W' → Calls Try.prog 38 #[.int .i64 R2, .slice a7 K7.length c7, .slice a8 K8.length c8] W' fun e w' => ∃ v, e = .returned v ∧ NumO w' W'.heap.size w'.heap.size v (shA R2 K7 K8) ∧ Kept W' w') := fun W' k => ishares R2 K7 K8 _ _ W' ((H7.out.kept (hKW.trans k)).at) ((H8.out.kept (hKW.trans k)).at) HKL.out.2.2.2.2 HRR.out.2.2.2
        obtain ⟨SH, hSH⟩ : ∃ SH, shA R2 K7 K8 = SH := ⟨_, rfl⟩
        have hshb : ∀ x ∈ SH, 0 ≤ x ∧ x ≤ 10000 := by rw [← hSH]; exact shA_bd ⟨HRR.out.2.2.2, HKL.out.2.2.2.2⟩
        have hshl : SH.length = K6.length := by rw [← hSH, shA_len HKL.out.2.2.2.2.2.1]; exact HKL.out.2.1
        rw [hSH] at HSHC HLE
        have HSB : Hid ((∀ x ∈ SH, 0 ≤ x ∧ x ≤ 10000) ∧ SH.length = K6.length ∧ SH.length ≤ 40) := ⟨hshb, hshl, by have := HKL.out.1; omega⟩
        clear hLW hKW hSH hshb hshl C1 e0 e1 e2 e3 e4 q0 q1 q2 q3
        repeat (first | go_values | go_skip | go_guarded | go_step | go_upon)
        go_at_call 38
        refine (HSHC.out _ (But.refl _ _ _)).mono ?_
        rintro e w3 ⟨vs, rfl, os, k3⟩
        obtain ⟨asH, cs, hf, _⟩ := own_form os.1
        subst hf
        dsimp only
        have HSO : Hid (NumO w3 WQ.heap.size w3.heap.size (.slice asH SH.length cs) SH) := os
        have HL3 : Hid (Loc w3 B [.int .i64 R0, .int .i64 R1, .int .i64 R2, .int .i64 R3]) := HLW.out.kept k3
        have HK3 : Hid (Kept wr w3 ∧ Kept w w3) := ⟨HKRW.out.trans k3, HK.out.trans (HKRW.out.trans k3)⟩
        have HSZ : Hid (B < WQ.heap.size ∧ wr.heap.size ≤ B ∧ w.heap.size ≤ wr.heap.size ∧ WQ.heap.size ≤ w3.heap.size) := ⟨gl, HB9.out, hwr, k3.size⟩
        have HSL : Hid (SH.length ≤ 40) := HSB.out.2.2
        clear os k3 g2 gl hwsz HSHC HLW
        repeat (first | go_values | go_skip | go_guarded | go_step | go_upon)
        go_loopw [64] (fun i wz => ∃ n : Nat, n ≤ SH.length ∧ i = .int .i64 (n : Int) ∧ PlacedO wz lo hi (.slice (some ⟨G, 0, none⟩) ps.length cq) (layN x1 (r0, r1, r2, r3) K6 SH ps n) ∧ Loc wz B [.int .i64 (R0 + (SH.take n).sum), .int .i64 R1, .int .i64 R2, .int .i64 R3] ∧ NumO wz w.heap.size wr.heap.size (.slice a6 K6.length c6) K6 ∧ NumO wz WQ.heap.size w3.heap.size (.slice asH SH.length cs) SH ∧ But lo hi w wz) (fun i _ => SH.length - (intOf i).toNat)
        case atStart => exact ⟨0, by omega, rfl, HP.out.kept HK3.out.2, by simpa using HL3.out, H6.out.kept HK3.out.1, HSO.out, But.of HK3.out.2⟩
        case round =>
          rename World => wz
          obtain ⟨n, hn, rfl, opl, orm, ok6, osh, hbt⟩ := hrel
          by_cases hltn : n < SH.length
          · obtain ⟨sv, hsv⟩ : ∃ s, SH[n]? = some s := ⟨_, List.getElem?_eq_getElem hltn⟩
            obtain ⟨kq, hkq⟩ : ∃ k, K6[n]? = some k := ⟨_, List.getElem?_eq_getElem (by have := HSB.out.2.1; omega)⟩
            have hkb := HKL.out.2.2.2.1 kq (List.mem_of_getElem? hkq)
            obtain ⟨kk, rfl⟩ : ∃ kk : Nat, kq = (kk : Int) := ⟨kq.toNat, by omega⟩
            have hsb := HSB.out.1 sv (List.mem_of_getElem? hsv)
            have hof := sumT_bd (SH.take n) (fun x hx => HSB.out.1 x (List.mem_of_mem_take hx))
            have hol : ((SH.take n).length : Int) ≤ 40 := by rw [List.length_take]; have := HSB.out.2.2; omega
            have hlen := layN_len x1 (r0, r1, r2, r3) K6 SH ps n
            obtain ⟨⟨v0, v1, v2, v3⟩, hpv⟩ : ∃ p, (layN x1 (r0, r1, r2, r3) K6 SH ps n)[kk]? = some p := ⟨_, List.getElem?_eq_getElem (by have := HIN.out.2.2; omega)⟩
            have hnx := layN_next (lay := x1) (r := (r0, r1, r2, r3)) (ps := ps) hkq hsv
            rw [show ((kk : Int)).toNat = kk by omega] at hnx
            have hsum : (SH.take (n + 1)).sum = (SH.take n).sum + sv := by rw [take_snoc hsv, List.sum_append]; simp
            have hkid := asP_kid x1 (r0, r1, r2, r3) (SH.take n).sum sv
            rw [HRR.out.2.1] at hkid
            dsimp only at hkid
            obtain ⟨bs, oss, caps, ee, c0s⟩ := num_get osh.at hsv
            cases ee
            obtain ⟨bk, ok, capk, ee, c0k⟩ := num_get ok6.at hkq
            cases ee
            have g0 := orm.cell 0 rfl
            have g1 := orm.cell 1 rfl
            have g3 := orm.cell 3 rfl
            have gl := orm.lt
            obtain ⟨OFF, hOFF⟩ : ∃ o, (SH.take n).sum = o := ⟨_, rfl⟩
            obtain ⟨X, hX⟩ : ∃ x, R0 + OFF = x := ⟨_, rfl⟩
            rw [hOFF] at hof hsum hkid hnx orm g0
            rw [hX] at hkid orm g0
            obtain ⟨⟨k0, k1, k2, k3⟩, hkd⟩ : ∃ p : PlacedD, kidP x1 (r0, r1, r2, r3) OFF sv = p := ⟨_, rfl⟩
            rw [hkd] at hkid hnx
            have C3 : Hid (∀ W, Calls Try.prog 50 #[.agg #[.int .i64 X, .int .i64 R1, .int .i64 sv, .int .i64 R3], .int .i64 x1] W fun e w' => e = .returned (.agg #[.int .i64 k0, .int .i64 k1, .int .i64 k2, .int .i64 k3]) ∧ Kept W w') := fun W => by
              have := iasRow X R1 sv R3 x1 W
              rw [hkid] at this
              exact this
            have hXb : 0 ≤ X ∧ X ≤ 100000000 := by have := HRR.out.2.2.1; have := HB1.out; omega
            have HNX : Hid (layN x1 (r0, r1, r2, r3) K6 SH ps (n + 1) = (layN x1 (r0, r1, r2, r3) K6 SH ps n).set kk (k0, k1, k2, k3) ∧ R0 + (SH.take (n + 1)).sum = X + sv) := ⟨hnx, by rw [hsum]; omega⟩
            obtain ⟨PS, hPS⟩ : ∃ q, layN x1 (r0, r1, r2, r3) K6 SH ps n = q := ⟨_, rfl⟩
            rw [hPS] at opl hlen hpv HNX
            have HPS : Hid (PlacedO wz lo hi (.slice (some ⟨G, 0, none⟩) ps.length cq) PS ∧ ps.length = PS.length ∧ PS[kk]? = some (v0, v1, v2, v3)) := ⟨opl, hlen.symm, hpv⟩
            have HRM : Hid (Loc wz B [.int .i64 X, .int .i64 R1, .int .i64 R2, .int .i64 R3]) := orm
            have HOK6 : Hid (NumO wz w.heap.size wr.heap.size (.slice (some ⟨bk, ok, none⟩) K6.length c6) K6) := ok6
            have HOSH : Hid (NumO wz WQ.heap.size w3.heap.size (.slice (some ⟨bs, oss, none⟩) SH.length cs) SH) := osh
            have HBT : Hid (But lo hi w wz) := hbt
            have z0 : (0 : Int) ≤ (n : Int) := by omega
            have z1 : (n : Int) < (K6.length : Int) := by have := HSB.out.2.1; omega
            have z2 : (n : Int) < (SH.length : Int) := by omega
            have z3 : (n : Int) ≤ 40 := by have := HSB.out.2.2; omega
            have t0 : (0 : Int) ≤ (kk : Int) := by omega
            have t1 : (kk : Int) < (ps.length : Int) := by have := HIN.out.2.2; omega
            have hbkl : bk < wz.heap.size := World.block_lt_of_cell? _ _ c0k
            have hbsl : bs < wz.heap.size := World.block_lt_of_cell? _ _ c0s
            obtain ⟨hXb0, hXb1⟩ := hXb
            obtain ⟨hsb0, hsb1⟩ := hsb
            clear opl orm ok6 osh hbt hpv hlen hnx hsum hkid hof hol hOFF hX hkd hPS hkb hsv hkq
            repeat (first | go_values | go_skip | go_guarded | go_step | go_upon)
            refine wp_region_Z (fun W' => Kept wz W') 16 (by kernel_rfl) ?_
            have hS : (fun W' => Kept wz W') wz.drew := (But.refl _ _ wz).drew
            refine wpAnyZ_take (i := 0) (v := .slice (some ⟨G, 0, none⟩) ps.length cq) rfl (by kernel_rfl) (by kernel_rfl) (by kernel_rfl) (by kernel_rfl) (fun _ _ _ h => h) (Or.inl ⟨by rfl, ?_⟩) hS ?_
            · intro w' hSw; have s0 := Kept.cell hSw c0k; have s1 := Kept.cell hSw g0; have s2 := Kept.cell hSw g1; have s3 := Kept.cell hSw g3; go_simp
            try simp only [Act.put]
            refine wpAnyZ_take (i := 1) (v := .slice (some ⟨bk, ok, none⟩) K6.length c6) rfl (by kernel_rfl) (by kernel_rfl) (by kernel_rfl) (by kernel_rfl) (fun _ _ _ h => h) (Or.inl ⟨by rfl, ?_⟩) hS ?_
            · intro w' hSw; have s0 := Kept.cell hSw c0k; have s1 := Kept.cell hSw g0; have s2 := Kept.cell hSw g1; have s3 := Kept.cell hSw g3; go_simp
            try simp only [Act.put]
            refine wpAnyZ_take (i := 2) (v := .int .i64 (n : Int)) rfl (by kernel_rfl) (by kernel_rfl) (by kernel_rfl) (by kernel_rfl) (fun _ _ _ h => h) (Or.inl ⟨by rfl, ?_⟩) hS ?_
            · intro w' hSw; have s0 := Kept.cell hSw c0k; have s1 := Kept.cell hSw g0; have s2 := Kept.cell hSw g1; have s3 := Kept.cell hSw g3; go_simp
            try simp only [Act.put]
            refine wpAnyZ_take (i := 3) (v := .pointer (some ⟨bk, ok + n, none⟩)) rfl (by kernel_rfl) (by kernel_rfl) (by kernel_rfl) (by kernel_rfl) (fun _ _ _ h => h) (Or.inl ⟨by rfl, ?_⟩) hS ?_
            · intro w' hSw; have s0 := Kept.cell hSw c0k; have s1 := Kept.cell hSw g0; have s2 := Kept.cell hSw g1; have s3 := Kept.cell hSw g3; go_simp
            try simp only [Act.put]
            refine wpAnyZ_take (i := 4) (v := .int .i64 (kk : Int)) rfl (by kernel_rfl) (by kernel_rfl) (by kernel_rfl) (by kernel_rfl) (fun _ _ _ h => h) (Or.inl ⟨by rfl, ?_⟩) hS ?_
            · intro w' hSw; have s0 := Kept.cell hSw c0k; have s1 := Kept.cell hSw g0; have s2 := Kept.cell hSw g1; have s3 := Kept.cell hSw g3; go_simp
            try simp only [Act.put]
            refine wpAnyZ_take (i := 5) (v := .pointer (some ⟨B, 0, none⟩)) rfl (by kernel_rfl) (by kernel_rfl) (by kernel_rfl) (by kernel_rfl) (fun _ _ _ h => h) (Or.inl ⟨by rfl, ?_⟩) hS ?_
            · intro w' hSw; have s0 := Kept.cell hSw c0k; have s1 := Kept.cell hSw g0; have s2 := Kept.cell hSw g1; have s3 := Kept.cell hSw g3; go_simp
            try simp only [Act.put]
            refine wpAnyZ_take (i := 6) (v := .int .i64 X) rfl (by kernel_rfl) (by kernel_rfl) (by kernel_rfl) (by kernel_rfl) (fun _ _ _ h => h) (Or.inl ⟨by rfl, ?_⟩) hS ?_
            · intro w' hSw; have s0 := Kept.cell hSw c0k; have s1 := Kept.cell hSw g0; have s2 := Kept.cell hSw g1; have s3 := Kept.cell hSw g3; go_simp
            try simp only [Act.put]
            refine wpAnyZ_take (i := 7) (v := .pointer (some ⟨B, 1, none⟩)) rfl (by kernel_rfl) (by kernel_rfl) (by kernel_rfl) (by kernel_rfl) (fun _ _ _ h => h) (Or.inl ⟨by rfl, ?_⟩) hS ?_
            · intro w' hSw; have s0 := Kept.cell hSw c0k; have s1 := Kept.cell hSw g0; have s2 := Kept.cell hSw g1; have s3 := Kept.cell hSw g3; go_simp
            try simp only [Act.put]
            refine wpAnyZ_take (i := 8) (v := .int .i64 R1) rfl (by kernel_rfl) (by kernel_rfl) (by kernel_rfl) (by kernel_rfl) (fun _ _ _ h => h) (Or.inl ⟨by rfl, ?_⟩) hS ?_
            · intro w' hSw; have s0 := Kept.cell hSw c0k; have s1 := Kept.cell hSw g0; have s2 := Kept.cell hSw g1; have s3 := Kept.cell hSw g3; go_simp
            try simp only [Act.put]
            refine wpAnyZ_take (i := 9) (v := .int .i64 sv) rfl (by kernel_rfl) (by kernel_rfl) (by kernel_rfl) (by kernel_rfl) (fun _ _ _ h => h) (Or.inl ⟨by rfl, ?_⟩) hS ?_
            · intro w' hSw; have s0 := Kept.cell hSw c0k; have s1 := Kept.cell hSw g0; have s2 := Kept.cell hSw g1; have s3 := Kept.cell hSw g3; go_simp
            try simp only [Act.put]
            refine wpAnyZ_take (i := 10) (v := .pointer (some ⟨B, 3, none⟩)) rfl (by kernel_rfl) (by kernel_rfl) (by kernel_rfl) (by kernel_rfl) (fun _ _ _ h => h) (Or.inl ⟨by rfl, ?_⟩) hS ?_
            · intro w' hSw; have s0 := Kept.cell hSw c0k; have s1 := Kept.cell hSw g0; have s2 := Kept.cell hSw g1; have s3 := Kept.cell hSw g3; go_simp
            try simp only [Act.put]
            refine wpAnyZ_take (i := 11) (v := .int .i64 R3) rfl (by kernel_rfl) (by kernel_rfl) (by kernel_rfl) (by kernel_rfl) (fun _ _ _ h => h) (Or.inl ⟨by rfl, ?_⟩) hS ?_
            · intro w' hSw; have s0 := Kept.cell hSw c0k; have s1 := Kept.cell hSw g0; have s2 := Kept.cell hSw g1; have s3 := Kept.cell hSw g3; go_simp
            try simp only [Act.put]
            refine wpAnyZ_take (i := 12) (v := .agg #[.int .i64 X, .int .i64 R1, .int .i64 sv, .int .i64 R3]) rfl (by kernel_rfl) (by kernel_rfl) (by kernel_rfl) (by kernel_rfl) (fun _ _ _ h => h) (Or.inl ⟨by rfl, ?_⟩) hS ?_
            · intro w' hSw; have s0 := Kept.cell hSw c0k; have s1 := Kept.cell hSw g0; have s2 := Kept.cell hSw g1; have s3 := Kept.cell hSw g3; go_simp
            try simp only [Act.put]
            refine wpAnyZ_take (i := 13) (v := .int .i64 x1) rfl (by kernel_rfl) (by kernel_rfl) (by kernel_rfl) (by kernel_rfl) (fun _ _ _ h => h) (Or.inl ⟨by rfl, ?_⟩) hS ?_
            · intro w' hSw; have s0 := Kept.cell hSw c0k; have s1 := Kept.cell hSw g0; have s2 := Kept.cell hSw g1; have s3 := Kept.cell hSw g3; go_simp
            try simp only [Act.put]
            refine wpAnyZ_one (i := 14) (by kernel_rfl) rfl ?_
            intro K9 hK9
            refine step_call rfl 50 _ _ _ rfl (enters_of Try.func50 (by kernel_rfl) rfl) (vx := .agg #[.int .i64 X, .int .i64 R1, .int .i64 sv, .int .i64 R3]) (vy := .int .i64 x1) (by simp [Act.eval]) (by simp [Act.eval]) ((C3.out _).mono ?_)
            rintro e w5 ⟨rfl, k5⟩
            have kz5 : Kept wz w5 := hS.trans k5
            refine ⟨_, rfl, hK9.out _ _ (fun _ => kz5) ?_⟩
            clear hK9 K9
            try simp only [Act.put]
            have opl : PlacedO w5 lo hi (.slice (some ⟨G, 0, none⟩) ps.length cq) PS := PlacedO.kept HPS.out.1 kz5
            have hcc := PlacedO.cells (g := G) (cap := cq) (n := ps.length) (i := kk) (p := (v0, v1, v2, v3)) opl HPS.out.2.2
            have hst := PlacedO.store (g := G) (cap := cq) (n := ps.length) (i := kk) (p := (v0, v1, v2, v3)) opl HPS.out.2.1 HPS.out.2.2 (k0, k1, k2, k3)
            have d0 := hcc.1
            have d1 := hcc.2.1
            have d2 := hcc.2.2.1
            have d3 := hcc.2.2.2.1
            have dz0 := hcc.2.2.2.2 (kk * 4)
            have dz1 := hcc.2.2.2.2 (kk * 4 + 1)
            have dz2 := hcc.2.2.2.2 (kk * 4 + 2)
            have dz3 := hcc.2.2.2.2 (kk * 4 + 3)
            have m1 := hst.1
            have m2 := hst.2.1
            have m3 := hst.2.2.1
            have mm := hst.2.2.2
            clear hcc hst
            have HMM : Hid (PlacedO ((((w5.setCell ⟨G, kk * 4, none⟩ (.int .i64 k0)).setCell ⟨G, kk * 4 + 1, none⟩ (.int .i64 k1)).setCell ⟨G, kk * 4 + 2, none⟩ (.int .i64 k2)).setCell ⟨G, kk * 4 + 3, none⟩ (.int .i64 k3)) lo hi (.slice (some ⟨G, 0, none⟩) ps.length cq) (PS.set kk (k0, k1, k2, k3))) := mm
            have B5 : But lo hi w5 ((((w5.setCell ⟨G, kk * 4, none⟩ (.int .i64 k0)).setCell ⟨G, kk * 4 + 1, none⟩ (.int .i64 k1)).setCell ⟨G, kk * 4 + 2, none⟩ (.int .i64 k2)).setCell ⟨G, kk * 4 + 3, none⟩ (.int .i64 k3)) := ((((But.refl _ _ _).setCell HGI.out.1 HGI.out.2 _).setCell HGI.out.1 HGI.out.2 _).setCell HGI.out.1 HGI.out.2 _).setCell HGI.out.1 HGI.out.2 _
            have HB5 : Hid (But lo hi w5 ((((w5.setCell ⟨G, kk * 4, none⟩ (.int .i64 k0)).setCell ⟨G, kk * 4 + 1, none⟩ (.int .i64 k1)).setCell ⟨G, kk * 4 + 2, none⟩ (.int .i64 k2)).setCell ⟨G, kk * 4 + 3, none⟩ (.int .i64 k3))) := B5
            clear opl mm B5
            refine wpAnyZ_take (i := 15) (v := .pointer (some ⟨G, kk * 4, none⟩)) rfl (by kernel_rfl) (by kernel_rfl) (by kernel_rfl) (by kernel_rfl) (fun _ _ _ h => h) (Or.inl ⟨by rfl, ?_⟩) kz5 ?_
            · intro w' hSw; go_simp
            try simp only [Act.put]
            refine wpAnyZ_one (i := 16) (by kernel_rfl) rfl ?_
            intro K9 hK9
            rw [if_pos (by rfl)]
            go_simp
            refine hK9.out _ _ (fun h => absurd rfl h) ?_
            clear hK9 K9 d0 d1 d2 d3 m1 m2 m3 dz0 dz1 dz2 dz3
            refine wpAnyZ_done (by kernel_rfl) ?_ _
            try simp only [Act.put]
            refine forgetX (fun W => PlacedO W lo hi (.slice (some ⟨G, 0, none⟩) ps.length cq) (PS.set kk (k0, k1, k2, k3)) ∧ Loc W B [.int .i64 X, .int .i64 R1, .int .i64 R2, .int .i64 R3] ∧ NumO W w.heap.size wr.heap.size (.slice (some ⟨bk, ok, none⟩) K6.length c6) K6 ∧ NumO W WQ.heap.size w3.heap.size (.slice (some ⟨bs, oss, none⟩) SH.length cs) SH ∧ But lo hi w W) ⟨HMM.out, (HRM.out.kept kz5).but HB5.out (by have := HSZ.out; omega), (HOK6.out.kept kz5).but HB5.out (by omega), (HOSH.out.kept kz5).but HB5.out (by have := HSZ.out; omega), (HBT.out.transK kz5).trans HB5.out⟩ ?_
            clear HMM HB5 k5 kz5 hS c0s c0k g0 g1 g3 gl hbkl hbsl
            intro W6 hW6
            have opl := hW6.1
            have orm := hW6.2.1
            have ok6 := hW6.2.2.1
            have osh := hW6.2.2.2.1
            have hbt := hW6.2.2.2.2
            clear hW6
            have g0 := orm.cell 0 rfl
            have f0 := orm.frozen 0
            have gl := orm.lt
            have RS := orm.set 0 (.int .i64 (X + sv))
            simp only [List.set_cons_zero] at RS
            have BB6 : But B (B + 1) W6 (W6.setCell ⟨B, 0, none⟩ (.int .i64 (X + sv))) := (But.refl _ _ _).setCell (by simp) (by simp) _
            have HF : Hid (PlacedO (W6.setCell ⟨B, 0, none⟩ (.int .i64 (X + sv))) lo hi (.slice (some ⟨G, 0, none⟩) ps.length cq) (PS.set kk (k0, k1, k2, k3)) ∧ Loc (W6.setCell ⟨B, 0, none⟩ (.int .i64 (X + sv))) B [.int .i64 (X + sv), .int .i64 R1, .int .i64 R2, .int .i64 R3] ∧ NumO (W6.setCell ⟨B, 0, none⟩ (.int .i64 (X + sv))) w.heap.size wr.heap.size (.slice (some ⟨bk, ok, none⟩) K6.length c6) K6 ∧ NumO (W6.setCell ⟨B, 0, none⟩ (.int .i64 (X + sv))) WQ.heap.size w3.heap.size (.slice (some ⟨bs, oss, none⟩) SH.length cs) SH ∧ But lo hi w (W6.setCell ⟨B, 0, none⟩ (.int .i64 (X + sv)))) :=
              ⟨opl.but BB6 (by have := HSZ.out; omega), RS, ok6.but BB6 (by have := HSZ.out; omega), osh.but BB6 (by have := HSZ.out; omega), hbt.setNew (by have := HSZ.out; show _ ≤ B; omega) _⟩
            clear opl orm ok6 osh hbt RS BB6
            repeat (first | go_values | go_skip | go_guarded | go_step | go_upon)
            refine ⟨⟨n + 1, hltn, by go_num, ?_, ?_, HF.out.2.2.1, HF.out.2.2.2.1, HF.out.2.2.2.2⟩, by simp [intOf]; omega⟩
            · rw [HNX.out.1]; exact HF.out.1
            · rw [HNX.out.2]; exact HF.out.2.1
          · have hne : n = SH.length := by omega
            subst hne
            have HOP : Hid (PlacedO wz lo hi (.slice (some ⟨G, 0, none⟩) ps.length cq) (layN x1 (r0, r1, r2, r3) K6 SH ps SH.length)) := opl
            have HBT : Hid (But lo hi w wz) := hbt
            clear opl orm ok6 osh hbt
            repeat (first | go_values | go_skip | go_guarded | go_step | go_upon)
            refine bodyPost_end (v := .tuple #[]) (by simp [results, Try.results40, go_sem]) rfl ?_
            exact ⟨rfl, by rw [HLE.out, ← HSB.out.2.1]; exact HOP.out, HBT.out⟩


end Go.Proofs.Ytaofilinejanjaa

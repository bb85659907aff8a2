/-
  Light, in the program.
-/
import Derived.Test.YtnfkgnbhdhpnmaaStepsL13
import Derived.Test.YtnfkgnbhdhpnmaaLamps13
namespace Go.Proofs.Ytnfkgnbhdhpnmaa
open Go.ChangeShapes Go.WideShapes Go.ChangeAt Go.RowKit

set_option maxRecDepth 100000
set_option linter.unusedVariables false
set_option maxHeartbeats 8000000 in
theorem ilight (a b d : Int) (l ls : List Int) (ao po : Option Addr) (cap pcap : Nat) (w : World) (hv : NumAt w (.slice ao l.length cap) l) (hp : NumAt w (.slice po ls.length pcap) ls) (hl : l.length ≤ 1048576) (hls : ls.length ≤ 1048576) :
    Calls Try.prog 38 #[.agg #[.int .i64 a, .int .i64 b, .int .i64 d, .slice ao l.length cap], .slice po ls.length pcap] w fun e w' => ∃ v', e = .returned (.tuple #[v', .bool (lightA a b d l ls).2]) ∧ NumO w' w.heap.size w'.heap.size v' (lightA a b d l ls).1 ∧ Kept w w' := by
  by_cases hg : BlocksP a b d l
  · have dg : decide (BlocksP a b d l) = true := decide_eq_true hg
    cases dl : lampsOk (l.length : Int) ls with
    | true =>
      rw [lightA_yes ⟨hg, dl⟩]
      have hlb : lampsB (l.length : Int) (-1) ls = true := by unfold lampsOk at dl; simp at dl; exact dl.2
      have HLA : Hid (∀ u, Kept w u → Calls Try.prog 58 #[.agg #[.int .i64 a, .int .i64 b, .int .i64 d, .slice ao l.length cap], .slice po ls.length pcap] u fun e w' => e = .returned (.bool true) ∧ Kept u w') := fun u hu => by
        have h := ilamps a b d l ls ao po cap pcap u (hv.kept hu) (hp.kept hu) hl hls
        rw [dl] at h
        exact h
      obtain ⟨first, hfe, hfr, hnod⟩ := lamps_nat ls (-1) (by omega) hlb
      have hll : ls.length = first.length := by rw [hfe]; simp
      have hfF : lampF ls = fun x => x ∈ first := by unfold lampF; rw [hfe, nat_back]
      rw [hfF]
      rw [hll] at HLA hp hls ⊢
      rw [hfe] at hp
      clear hlb hfF dl hfe hll
      have HG : Hid (BlocksP a b d l) := hg
      have hvol := hg.edge.vol
      have hl5 := hg.len
      have hl512 : l.length ≤ 512 ∧ 0 < l.length := by omega
      clear hvol hl5 hg
      go_enter Try.func38, Try.ntmps38
      repeat (first | (go_at_call 19; refine (igood _ _ _ _ _ _ _ (hv.kept ((But.refl _ _ _).alloc _)) (by omega)).mono ?_; rintro e u1 ⟨rfl, k1⟩; rw [dg]; have K1 : Kept w u1 := ((But.refl _ _ _).alloc _).trans k1; have L1 := (Loc.new w [.int .i64 a, .int .i64 b, .int .i64 d, .slice ao l.length cap] 25).kept k1; have v0 := L1.cell 0 rfl; have v1 := L1.cell 1 rfl; have v2 := L1.cell 2 rfl; have v3 := L1.cell 3 rfl; have vl := L1.lt; (try dsimp only)) | (go_at_call 58; refine (HLA.out _ K1).mono ?_; rintro e u2 ⟨rfl, k2⟩; have K2 := K1.trans k2; have L2 := L1.kept k2; clear v0 v1 v2 v3; have v0 := L2.cell 0 rfl; have v1 := L2.cell 1 rfl; have v2 := L2.cell 2 rfl; have v3 := L2.cell 3 rfl; (try dsimp only)) | go_values | go_skip | go_guarded | go_step | go_upon)
      go_at_call 55
      refine (istepsL a b d l first _ ao po cap pcap u2 (hv.kept K2) HG.out (hp.kept K2) (fun c hc => by have := hfr c hc; omega) hnod (by omega) (fun k => getI l (k : Int) == 0) (fun u k hk hu => ilight1 a b d l ao cap k w.heap.size u (hv.kept (K2.trans hu)) hk (L2.kept hu))).mono ?_
      rintro e u3 ⟨v3', s, rfl, o3, hsl, hds, hbd, k3⟩
      obtain ⟨g3, cap3, ef⟩ := own_some o3 (by omega)
      subst ef
      have K3 := K2.trans k3
      have h23 := K2.size
      obtain ⟨R, hR⟩ : ∃ R, R = (List.range l.length).map (lightV (fun x => x ∈ first) (airE a b d l)) := ⟨_, rfl⟩
      have hRl : R.length = s.length := by rw [hR, hsl]; simp
      have HR : Hid (∀ k, k < s.length → R[k]? = some (lightV (fun x => x ∈ first) (airE a b d l) k)) := fun k hk => by rw [hR]; rw [hsl] at hk; simp [hk]
      have HD : Hid (∀ k, k < s.length → (sv s k = -1 ∧ lightV (fun x => x ∈ first) (airE a b d l) k = 0) ∨ (0 ≤ sv s k ∧ lightV (fun x => x ∈ first) (airE a b d l) k = max 0 (15 - sv s k))) := fun k hk => light_dist (hds k (by omega))
      have HB : Hid (∀ k, k < s.length → sv s k ≤ 1000) := fun k hk => by have := hbd k (by omega); omega
      have HRE : Hid (R = (List.range l.length).map (lightV (fun x => x ∈ first) (airE a b d l))) := hR
      have HO : Hid (NumO u3 u2.heap.size u3.heap.size (.slice (some ⟨g3, 0, none⟩) s.length cap3) s) := o3
      have hsb : s.length ≤ 512 := by omega
      clear o3 hds hbd k3 hR v0 v1 v2 v3 vl L1 L2 K1 hfr hnod dg HLA hsl hl512
      (try dsimp only)
      repeat (first | go_values | go_skip | go_guarded | go_step | go_upon)
      go_loopw [24] (fun i wr => ∃ k : Nat, k ≤ s.length ∧ i = .int .i64 k ∧ Hid (NumO wr u2.heap.size u3.heap.size (.slice (some ⟨g3, 0, none⟩) s.length cap3) (mix R s k)) ∧ Hid (But g3 (g3 + 1) u3 wr)) (fun i _ => s.length - (intOf i).toNat)
      case atStart => exact ⟨0, by omega, rfl, by show NumO _ _ _ _ _; rw [mix_zero]; exact HO.out, But.refl _ _ _⟩
      case round =>
        obtain ⟨k, hk, rfl, HM, HK⟩ := hrel
        have hgl := own_lt HO.out.1 (g := g3) rfl
        by_cases hlt : k < s.length
        · have hmg : (mix R s k)[k]? = some (sv s k) := by rw [mix_get _ _ _ hRl hlt]; exact sv_get hlt
          have hml : s.length = (mix R s k).length := (mix_len _ _ _ hRl hk).symm
          have hRk := HR.out k hlt
          obtain ⟨d0, dz⟩ := HM.out.cells hmg
          have dz0 := dz k
          have hb := HB.out k hlt
          have h9 := HM.out.set hml hmg (lightV (fun x => x ∈ first) (airE a b d l) k)
          rw [mix_set _ _ k _ hRl hRk] at h9
          have HN : Hid (NumO (wr.setCell ⟨g3, k, none⟩ (.int .i64 (lightV (fun x => x ∈ first) (airE a b d l) k))) u2.heap.size u3.heap.size (.slice (some ⟨g3, 0, none⟩) s.length cap3) (mix R s (k + 1))) := h9
          have HK2 : Hid (But g3 (g3 + 1) u3 (wr.setCell ⟨g3, k, none⟩ (.int .i64 (lightV (fun x => x ∈ first) (airE a b d l) k)))) := HK.out.setCell (by simp) (by simp) _
          rcases HD.out k hlt with ⟨e1, e2⟩ | ⟨e1, e2⟩
          · rw [e2] at HN HK2
            have ds : (sv s k == -1) = true := by simpa using e1
            rw [e1] at d0
            clear h9 hRk hmg hml dz e2 hb
            repeat (first | go_values | go_skip | go_guarded | go_step | go_upon)
            exact ⟨⟨k + 1, hlt, by go_num, HN, HK2⟩, by simp [intOf]; omega⟩
          · rw [e2, show max 0 (15 - sv s k) = (if sv s k < 15 then 15 - sv s k else 0) by split <;> omega] at HN HK2
            have ds : (sv s k == -1) = false := by simp; omega
            clear h9 hRk hmg hml dz e2
            repeat (first | go_values | go_skip | go_guarded | go_step | go_upon)
            exact ⟨⟨k + 1, hlt, by go_num, HN, HK2⟩, by simp [intOf]; omega⟩
        · have hke : k = s.length := by omega
          subst hke
          repeat (first | go_values | go_skip | go_guarded | go_step | go_upon)
          go_returns
          refine ⟨_, rfl, ?_, K3.onto HK.out (by omega)⟩
          have h := HM.out
          rw [mix_all _ _ _ hRl rfl, HRE.out] at h
          have hz := HK.out.size
          exact NumO.mono h h23 hz
    | false =>
      rw [lightA_no (fun h => by rw [dl] at h; cases h.2)]
      go_enter Try.func38, Try.ntmps38
      repeat (first | (go_at_call 19; refine (igood _ _ _ _ _ _ _ (hv.kept ((But.refl _ _ _).alloc _)) (by omega)).mono ?_; rintro e u1 ⟨rfl, k1⟩; rw [dg]; have K1 : Kept w u1 := ((But.refl _ _ _).alloc _).trans k1; have L1 := (Loc.new w [.int .i64 a, .int .i64 b, .int .i64 d, .slice ao l.length cap] 25).kept k1; have v0 := L1.cell 0 rfl; have v1 := L1.cell 1 rfl; have v2 := L1.cell 2 rfl; have v3 := L1.cell 3 rfl; have vl := L1.lt; (try dsimp only)) | (go_at_call 58; refine (ilamps a b d l ls ao po cap pcap _ (hv.kept K1) (hp.kept K1) (by omega) (by omega)).mono ?_; rintro e u2 ⟨rfl, k2⟩; rw [dl]; have K2 := K1.trans k2; have L2 := L1.kept k2; clear v0 v1 v2 v3; have v0 := L2.cell 0 rfl; have v1 := L2.cell 1 rfl; have v2 := L2.cell 2 rfl; have v3 := L2.cell 3 rfl; (try dsimp only)) | go_values | go_skip | go_guarded | go_step | go_upon)
      go_returns
      exact ⟨_, rfl, RowO.top (World.ownsRow_nil _ _ _ _), K2⟩
  · have dg : decide (BlocksP a b d l) = false := decide_eq_false hg
    rw [lightA_no (fun h => hg h.1)]
    go_enter Try.func38, Try.ntmps38
    repeat (first | (go_at_call 19; refine (igood _ _ _ _ _ _ _ (hv.kept ((But.refl _ _ _).alloc _)) (by omega)).mono ?_; rintro e u1 ⟨rfl, k1⟩; rw [dg]; have K1 : Kept w u1 := ((But.refl _ _ _).alloc _).trans k1; have L1 := (Loc.new w [.int .i64 a, .int .i64 b, .int .i64 d, .slice ao l.length cap] 25).kept k1; have v0 := L1.cell 0 rfl; have v1 := L1.cell 1 rfl; have v2 := L1.cell 2 rfl; have v3 := L1.cell 3 rfl; have vl := L1.lt; (try dsimp only)) | go_values | go_skip | go_guarded | go_step | go_upon)
    go_returns
    exact ⟨_, rfl, RowO.top (World.ownsRow_nil _ _ _ _), K1⟩

end Go.Proofs.Ytnfkgnbhdhpnmaa

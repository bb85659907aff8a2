/-
  A byte laid behind a patch: the program.
-/
import Derived.Test.YtipgffikmnebnaaCApp21
namespace Go.Proofs.Ytipgffikmnebnaa
open Go.ChangeShapes Go.WideShapes Go.ChangeAt Go.RowKit

set_option maxRecDepth 100000
set_option linter.unusedVariables false
set_option linter.unusedSimpArgs false

set_option maxHeartbeats 4000000 in
theorem iwith_nil (out : List ChunkD) (b : UInt8) (v : Value) (lo hi : Nat) (w : World) (hv : ChunksO w lo hi v out) (hlo : lo ≤ hi) (hhi : hi ≤ w.heap.size) (hlen : out.length ≤ 100000) (he : out = []) :
    Calls Try.prog 78 #[v, .int .u8 (b.toNat : Int)] w fun e w' => ∃ v', e = .returned v' ∧ ChunksO w' lo w'.heap.size v' (out ++ [(0, 0, [b])]) ∧ But lo hi w w' := by
  have HV : Hid (ChunksO w lo hi v out) := hv
  subst he
  obtain ⟨ao, cap, hf⟩ := hv.form
  subst hf
  have HO1 : Hid (BytO (w.alloc (.cells #[.int .u8 (b.toNat : Int)] 5)) w.heap.size (w.heap.size + 1) (.slice (some ⟨w.heap.size, 0, none⟩) 1 1) [b]) := one_own w b
  clear hv
  go_enter Try.func78, Try.ntmps78
  repeat (first | (at_builtin; refine forgetL (fun w' => w' = _) rfl ?_) | go_values | go_skip | go_guarded | go_step | go_upon)
  intro W7 hW7
  rw [hW7]
  clear hW7 W7
  have L2 := Loc.new (w.alloc (.cells #[.int .u8 (b.toNat : Int)] 5)) [.int .i64 0, .int .i64 0, .slice (some ⟨w.heap.size, 0, none⟩) 1 1] 108
  simp only [World.size_alloc] at L2
  have HV2 := HV.out.kept (((But.refl _ _ w).alloc (.cells #[.int .u8 (b.toNat : Int)] 5)).alloc (.cells #[.int .i64 0, .int .i64 0, .slice (some ⟨w.heap.size, 0, none⟩) 1 1] 108))
  refine appw_chunks rfl _ _ rfl (lo := lo) (mid := w.heap.size) rfl HV2 hhi rfl 0 0 _ [b] L2 rfl ((HO1.out.kept ((But.refl _ _ _).alloc _)).mono (Nat.le_refl _) (by simp)) (by omega) (by simp; omega) (by omega) ?_
  intro v7 w7 hO7 hB7
  have HO7 : Hid (ChunksO w7 lo w7.heap.size v7 ([] ++ [(0, 0, [b])])) := hO7
  have HB7 : Hid (But lo hi w w7) := (((But.refl _ _ w).alloc _).alloc _).trans hB7
  clear hO7 hB7 L2 HV2
  repeat (first | go_values | go_skip | go_guarded | go_step | go_upon)
  go_ret
  exact ⟨_, rfl, HO7.out, HB7.out⟩

set_option maxHeartbeats 4000000 in
theorem iwith_new (out : List ChunkD) (b : UInt8) (v : Value) (lo hi : Nat) (w : World) (hv : ChunksO w lo hi v out) (hlo : lo ≤ hi) (hhi : hi ≤ w.heap.size) (hlen : out.length ≤ 100000) (d : ChunkD) (hd : out[out.length - 1]? = some d) (hy : d.2.2 = []) :
    Calls Try.prog 78 #[v, .int .u8 (b.toNat : Int)] w fun e w' => ∃ v', e = .returned v' ∧ ChunksO w' lo w'.heap.size v' (out ++ [(0, 0, [b])]) ∧ But lo hi w w' := by
  have HV : Hid (ChunksO w lo hi v out) := hv
  have hv9 := hv
  obtain ⟨ao, cap, hf⟩ := hv.form
  subst hf
  obtain ⟨k, hk⟩ : ∃ k, out.length = k + 1 := ⟨out.length - 1, by have := (List.getElem?_eq_some_iff.1 hd).1; omega⟩
  have hd2 : out[k]? = some d := by rw [show k = out.length - 1 by omega]; exact hd
  obtain ⟨bb, o, cap', s, ee, c0, c1, c2, hka⟩ := hv9.at.get hd2
  cases ee
  obtain ⟨y0, y1, y2⟩ := d
  dsimp only at c0 c1 c2 hka hy
  obtain ⟨a3, p3, hs3⟩ := row_nil hka
  subst hs3
  have HK : Hid (out.length = k + 1) := hk
  have hw1 : IntKind.i64.wrap ((out.length : Int) - 1) = (k : Int) := by rw [IntWalk.i64_in _ (by omega)]; omega
  have hw2 : (out.length : Int) - 1 = (k : Int) := by omega
  have z0 : (0 : Int) ≤ (k : Int) := by omega
  have z1 : (k : Int) < (out.length : Int) := by omega
  have z2 : decide ((k : Int) < 0) = false := decide_eq_false (by omega)
  subst hy
  have HD2 : Hid (out[k]? = some (y0, y1, [])) := hd2
  clear hd hd2 hv9 hka hk
  have HO1 : Hid (BytO (w.alloc (.cells #[.int .u8 (b.toNat : Int)] 5)) w.heap.size (w.heap.size + 1) (.slice (some ⟨w.heap.size, 0, none⟩) 1 1) [b]) := one_own w b
  clear hv
  go_enter Try.func78, Try.ntmps78
  repeat (first | (at_builtin; refine forgetL (fun w' => w' = _) rfl ?_) | go_values | go_skip | go_guarded | go_step | go_upon)
  intro W7 hW7
  rw [hW7]
  clear hW7 W7
  have L2 := Loc.new (w.alloc (.cells #[.int .u8 (b.toNat : Int)] 5)) [.int .i64 0, .int .i64 0, .slice (some ⟨w.heap.size, 0, none⟩) 1 1] 108
  simp only [World.size_alloc] at L2
  have HV2 := HV.out.kept (((But.refl _ _ w).alloc (.cells #[.int .u8 (b.toNat : Int)] 5)).alloc (.cells #[.int .i64 0, .int .i64 0, .slice (some ⟨w.heap.size, 0, none⟩) 1 1] 108))
  refine appw_chunks rfl _ _ rfl (lo := lo) (mid := w.heap.size) rfl HV2 hhi rfl 0 0 _ [b] L2 rfl ((HO1.out.kept ((But.refl _ _ _).alloc _)).mono (Nat.le_refl _) (by simp)) (by omega) (by simp; omega) (by omega) ?_
  intro v7 w7 hO7 hB7
  have HO7 : Hid (ChunksO w7 lo w7.heap.size v7 (out ++ [(0, 0, [b])])) := hO7
  have HB7 : Hid (But lo hi w w7) := (((But.refl _ _ w).alloc _).alloc _).trans hB7
  clear hO7 hB7 L2 HV2
  repeat (first | go_values | go_skip | go_guarded | go_step | go_upon)
  go_ret
  exact ⟨_, rfl, HO7.out, HB7.out⟩

set_option maxHeartbeats 4000000 in
theorem iwith_last (out : List ChunkD) (b : UInt8) (v : Value) (lo hi : Nat) (w : World) (hv : ChunksO w lo hi v out) (hlo : lo ≤ hi) (hhi : hi ≤ w.heap.size) (hlen : out.length ≤ 100000) (d : ChunkD) (hd : out[out.length - 1]? = some d) (hy : d.2.2 ≠ []) (hdl : d.2.2.length ≤ 100000) :
    Calls Try.prog 78 #[v, .int .u8 (b.toNat : Int)] w fun e w' => ∃ v', e = .returned v' ∧ ChunksO w' lo w'.heap.size v' (out.set (out.length - 1) (d.1, d.2.1, d.2.2 ++ [b])) ∧ But lo hi w w' := by
  obtain ⟨ts, ho, ets⟩ := hv
  have hlt := chunks_len ets
  subst ets
  rw [List.length_map] at hd hlen hlt ⊢
  rw [List.getElem?_map] at hd
  obtain ⟨p, hp0⟩ : ∃ p, ts[ts.length - 1]? = some p := by
    cases h : ts[ts.length - 1]? with
    | none => rw [h] at hd; cases hd
    | some p => exact ⟨p, rfl⟩
  rw [hp0] at hd
  have hdp : stripChunk p = d := by simpa using hd
  subst hdp
  obtain ⟨k, hk⟩ : ∃ k, ts.length = k + 1 := ⟨ts.length - 1, by have := (List.getElem?_eq_some_iff.1 hp0).1; omega⟩
  have hks : ts.length - 1 = k := by omega
  rw [hks] at hp0 ⊢
  obtain ⟨ao, cap, hf⟩ := ho.form
  subst hf
  obtain ⟨bb, o, cap', ee, c0, c1, c2, hka⟩ := chunk_get ho.at hp0
  cases ee
  obtain ⟨cap2, hfm⟩ : ∃ cap2, Value.slice (some ⟨bb, o, none⟩) ts.length cap = .slice (some ⟨bb, 0, none⟩) ts.length cap2 := by
    rcases ho.row.1.2 with ⟨hv, _⟩ | ⟨g, c2, cur, hv, _⟩
    · cases hv
    · cases hv; exact ⟨_, rfl⟩
  cases hfm
  simp only [Nat.zero_add] at c0 c1 c2
  obtain ⟨y0, y1, ⟨s, l⟩⟩ := p
  unfold stripChunk at hy hdl ⊢
  dsimp only at c0 c1 c2 hka hy hdl ⊢
  have hinn := ho.inn k _ hp0
  dsimp only at hinn
  obtain ⟨a3, p3, hs3⟩ := row_nil hka
  subst hs3
  have hlpos : 0 < l.length := List.length_pos_iff.2 hy
  have dl : ((l.length : Int) == 0) = false := by rw [beq_eq_false_iff_ne]; omega
  have HO : Hid (ChunkO w lo hi (.slice (some ⟨bb, 0, none⟩) ts.length cap) ts) := ho
  have HI : Hid (BytO w lo hi (.slice a3 l.length p3) l) := hinn
  have HP : Hid (ts[k]? = some (y0, y1, (.slice a3 l.length p3, l))) := hp0
  have hbg := (own_lt ho.row.1 (g := bb) rfl)
  have hw1 : IntKind.i64.wrap ((ts.length : Int) - 1) = (k : Int) := by rw [IntWalk.i64_in _ (by omega)]; omega
  have hw2 : (ts.length : Int) - 1 = (k : Int) := by omega
  have z0 : (0 : Int) ≤ (k : Int) := by omega
  have z1 : (k : Int) < (ts.length : Int) := by omega
  have z2 : decide ((k : Int) < 0) = false := decide_eq_false (by omega)
  have cl := World.block_lt_of_cell? _ _ c2
  have hkk : Hid (ts.length = k + 1) := hk
  clear hd hp0 ho hka hinn hk hks hlt hy c0 c1
  go_enter Try.func78, Try.ntmps78
  repeat (first | (at_builtin; refine forgetL (fun w' => w' = _) rfl ?_) | go_values | go_skip | go_guarded | go_step | go_upon)
  intro W7 hW7
  rw [hW7]
  clear hW7 W7
  have L1 := Loc.new w [.int .u8 (b.toNat : Int)] 5
  have HI1 : BytO (w.alloc (.cells #[.int .u8 (b.toNat : Int)] 5)) lo hi (.slice a3 l.length p3) l := HI.out.kept ((But.refl _ _ _).alloc _)
  refine app1_byt rfl _ _ rfl (lo := lo) (ps := l) rfl HI1 b rfl L1 (by omega) (by simp; omega) ?_
  intro v7 w7 hO7 hB7 hown7
  obtain ⟨a7, c7, hf7⟩ := hO7.form
  subst hf7
  have HRS := ChunkO.reset (HO.out.kept ((But.refl _ _ w).alloc (.cells #[.int .u8 (b.toNat : Int)] 5))) rfl (by simp; omega) HP.out hB7 hO7 hown7
  have hBin := But.inner hB7 HI1
  have c27 : w7.cell? ⟨bb, k * 3 + 2, none⟩ = some (.slice a3 l.length p3) := by
    have hrow := RowO.apart (HO.out.kept ((But.refl _ _ w).alloc (.cells #[.int .u8 (b.toNat : Int)] 5))).row hB7 (ap_types (HO.out.kept ((But.refl _ _ w).alloc (.cells #[.int .u8 (b.toNat : Int)] 5))).row HI1 (by decide))
    exact (own_get 3 chunkC chunkC_len (by omega) hrow HP.out).1 2 _ rfl
  have f27 : w7.frozen? ⟨bb, k * 3 + 2, none⟩ = false := by
    have hrow := RowO.apart (HO.out.kept ((But.refl _ _ w).alloc (.cells #[.int .u8 (b.toNat : Int)] 5))).row hB7 (ap_types (HO.out.kept ((But.refl _ _ w).alloc (.cells #[.int .u8 (b.toNat : Int)] 5))).row HI1 (by decide))
    exact (own_get 3 chunkC chunkC_len (by omega) hrow HP.out).2 _
  have HR7 : Hid (ChunkO (w7.setCell ⟨bb, k * 3 + 2, none⟩ (.slice a7 (l ++ [b]).length c7)) lo w7.heap.size (.slice (some ⟨bb, 0, none⟩) ts.length cap) (ts.set k (y0, y1, (.slice a7 (l ++ [b]).length c7, l ++ [b])))) := HRS
  have hbh : bb < hi := HO.out.row.2 bb rfl
  have HB9 : Hid (But lo hi w (w7.setCell ⟨bb, k * 3 + 2, none⟩ (.slice a7 (l ++ [b]).length c7))) := (((But.refl _ _ w).alloc _).trans hBin).setCell (show lo ≤ bb from hbg.1) (show bb < hi from hbh) _
  clear HRS hBin hB7 hO7 hown7 L1 HI1
  repeat (first | go_values | go_skip | go_guarded | go_step | go_upon)
  go_ret
  refine ⟨_, rfl, ⟨_, (by simpa [World.setCell] using HR7.out), ?_⟩, by simpa using HB9.out⟩
  rw [List.map_set]
  rfl

theorem iwith (out : List ChunkD) (b : UInt8) (v : Value) (lo hi : Nat) (w : World) (hv : ChunksO w lo hi v out) (hlo : lo ≤ hi) (hhi : hi ≤ w.heap.size) (hlen : out.length ≤ 100000) (hdl : ∀ d ∈ out, d.2.2.length ≤ 100000) :
    Calls Try.prog 78 #[v, .int .u8 (b.toNat : Int)] w fun e w' => ∃ v', e = .returned v' ∧ ChunksO w' lo w'.heap.size v' (withB out b) ∧ But lo hi w w' := by
  by_cases he : out = []
  · rw [withB_new (.inl he)]
    exact iwith_nil out b v lo hi w hv hlo hhi hlen he
  · have hpos := List.length_pos_iff.2 he
    obtain ⟨d, hd⟩ : ∃ d, out[out.length - 1]? = some d := ⟨_, List.getElem?_eq_getElem (by omega)⟩
    by_cases hy : d.2.2 = []
    · rw [withB_new (.inr ⟨d, hd, hy⟩)]
      exact iwith_new out b v lo hi w hv hlo hhi hlen d hd hy
    · rw [withB_last hd hy]
      exact iwith_last out b v lo hi w hv hlo hhi hlen d hd hy (hdl d (List.mem_of_getElem? hd))

end Go.Proofs.Ytipgffikmnebnaa

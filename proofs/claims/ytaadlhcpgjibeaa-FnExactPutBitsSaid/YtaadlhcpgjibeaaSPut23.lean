/-
  The specification lays bits.
-/
import Derived.Test.YtaadlhcpgjibeaaPutA23
namespace Go.Proofs.Ytaadlhcpgjibeaa
open Go.ChangeShapes Go.WideShapes Go.ChangeAt Go.RowKit

set_option maxRecDepth 100000
set_option linter.unusedVariables false
set_option linter.unusedSimpArgs false

set_option maxHeartbeats 16000000 in
theorem sput (n : Nat) (l : List UInt8) (x m lo hi : Nat) (v : Value) (w : World) (hv : BitsO w lo hi v ((n : Int), l)) (hlo : lo ≤ hi) (hhi : hi ≤ w.heap.size) (hl : l.length = (n + 7) / 8) (hn : n ≤ 100000) (hm : m ≤ 32) (hx : x < 4294967296) :
    Calls Try.prog 21 #[v, .int .i64 (x : Int), .int .i64 (m : Int)] w fun e w' => ∃ v', e = .returned v' ∧ BitsO w' lo w'.heap.size v' (((n + m : Nat) : Int), layM n l x m m) ∧ But lo hi w w' := by
  obtain ⟨ao, cap, hfm⟩ := hv.form
  subst hfm
  have hr := hv.row
  dsimp only at hr
  have hin : ∀ g, (Value.slice ao l.length cap).ownBlock = some g → lo ≤ g ∧ g < hi := fun g hg => ⟨(own_lt hr.1 hg).1, hr.2 g hg⟩
  obtain ⟨W1, hW1⟩ : ∃ W1, W1 = (w.alloc (.cells #[.int .i64 (n : Int), .slice ao l.length cap] 27)).alloc (.cells #[.int .i64 0, .slice none 0 0] 27) := ⟨_, rfl⟩
  have K1 : Kept w W1 := by rw [hW1]; exact ((But.refl _ _ _).alloc _).alloc _
  have s1 : W1.heap.size = w.heap.size + 2 := by rw [hW1]; simp
  have L1 : Loc W1 w.heap.size [.int .i64 (n : Int), .slice ao l.length cap] := by rw [hW1]; exact (Loc.new w [.int .i64 (n : Int), .slice ao l.length cap] 27).alloc _
  have L2 : Loc W1 (w.heap.size + 1) [.int .i64 0, .slice none 0 0] := by
    rw [hW1]
    have := Loc.new (w.alloc (.cells #[.int .i64 (n : Int), .slice ao l.length cap] 27)) [.int .i64 0, .slice none 0 0] 27
    simpa using this
  have HLN : Hid (l.length = (n + 7) / 8) := hl
  clear hl
  go_enter Try.func21, Try.ntmps21
  repeat (first | go_values | go_skip | go_guarded | go_step | go_upon)
  rw [← hW1]
  clear hW1
  go_loopw [7] (fun k wr => ∃ (j : Nat) (s : Value), j ≤ m ∧ k = .int .i64 ((m : Int) - 1 - j) ∧ Hid (BytO wr lo wr.heap.size s (layM n l x m j)) ∧ Hid (∀ g, s.ownBlock = some g → (lo ≤ g ∧ g < hi) ∨ w.heap.size + 2 ≤ g) ∧ Hid (Loc wr w.heap.size [.int .i64 ((n + j : Nat) : Int), s]) ∧ Hid (Loc wr (w.heap.size + 1) [.int .i64 0, .slice none 0 0]) ∧ Hid (But lo hi w wr)) (fun k _ => ((intOf k) + 1).toNat)
  case atStart => exact ⟨0, _, by omega, by simp, (hr.kept K1).mono (Nat.le_refl _) (by omega), fun g hg => .inl (hin g hg), L1, L2, But.of K1⟩
  case round =>
    obtain ⟨j, s, hj, rfl, HO, HS, HL, HR, HB⟩ := hrel
    by_cases hlt : j < m
    · obtain ⟨k, hk⟩ : ∃ k, m = j + 1 + k := ⟨m - (j + 1), by omega⟩
      have ek : (m : Int) - 1 - (j : Int) = (k : Int) := by omega
      rw [ek]
      have HM : Hid (m - 1 - j = k ∧ m = j + 1 + k) := ⟨by omega, hk⟩
      obtain ⟨N, hN⟩ : ∃ N, n + j = N := ⟨_, rfl⟩
      obtain ⟨LJ, hLJ⟩ : ∃ LJ, layM n l x m j = LJ := ⟨_, rfl⟩
      have hLL : LJ.length = (N + 7) / 8 := by rw [← hLJ, ← hN]; exact layM_len x m HLN.out j
      have HT : Hid (∀ B, x / 2 ^ k % 2 = B → layM n l x m (j + 1) = layB N LJ B) := fun B hB => by rw [layM, HM.out.1, hN, hLJ, hB]
      have HN : Hid (n + j = N) := hN
      have hN2 : N ≤ 100032 := by omega
      rw [hLJ] at HO
      rw [hN] at HL
      obtain ⟨xr, hxr⟩ := room_at hLL
      obtain ⟨RL, hRL⟩ : ∃ RL, roomB N LJ = RL := ⟨_, rfl⟩
      have hrl := roomB_len hLL
      rw [hRL] at hxr hrl
      have HRR : Hid (roomB N LJ = RL) := hRL
      have HXR : Hid (RL[N / 8]? = some xr) := hxr
      have HL0 : Hid (layB N LJ 0 = RL) := by show _ = _; rw [layB_zero (by rw [hRL]; exact hxr), hRL]
      have HL1 : Hid (layB N LJ 1 = RL.set (N / 8) (orB xr 1 (N % 8))) := by show _ = _; rw [layB, hRL, hxr]; rfl
      have hi8 : N / 8 < RL.length := by omega
      have hr9 : RL.length ≤ 20000 := by omega
      clear hRL hrl
      have HLL : Hid (LJ.length = (N + 7) / 8) := hLL
      have hk2 : k < 32 := by omega
      clear hLJ hN hxr hLL ek hk
      have b0 := HL.out.cell 0 rfl
      have b1 := HL.out.cell 1 rfl
      have f0 := HL.out.frozen 0
      have f1 := HL.out.frozen 1
      have bz := HL.out.lt
      rcases Nat.mod_two_eq_zero_or_one (x / 2 ^ k) with hB | hB
      · have hbit : bits .and .i64 ((x : Int) / 2 ^ k) 1 = 0 := by rw [i64_bit x k hx, hB]; rfl
        have HT := HT.out 0 hB
        have HT : Hid _ := HT
        clear hB
        rcases Decidable.em (N % 8 = 0) with hp | hp
        · have hp1 : ((N : Int) % 8 == 0) = true := by simp; omega
          have HP : RL = LJ ++ [0] := by rw [← HRR.out]; exact if_pos hp
          clear hp
          obtain ⟨a5, p5, hf⟩ := HO.out.form
          subst hf
          repeat (first | (at_builtin; refine forgetL (fun w' => w' = _) rfl ?_) | go_values | go_skip | go_guarded | go_step | go_upon)
          intro W7 hW7
          rw [hW7]
          clear hW7 W7
          refine app1_byt rfl _ _ rfl (lo := lo) (hi := wr.heap.size) rfl (HO.out.kept ((But.refl _ _ _).alloc _)) 0 rfl (Loc.new wr [.int .u8 0] 5) (by have := HLL.out; omega) (by simp; omega) ?_
          intro v5 w5 o5 b5 h4
          have L5 : Loc w5 w.heap.size [.int .i64 (N : Int), .slice a5 LJ.length p5] := loc_own (HL.out.alloc _) b5 (fun g hg => by have := HS.out g hg; omega)
          have R5 : Loc w5 (w.heap.size + 1) [.int .i64 0, .slice none 0 0] := loc_own (HR.out.alloc _) b5 (fun g hg => by have := HS.out g hg; omega)
          have B5 : But lo hi w w5 := but_own (HB.out.alloc _) b5 (fun g hg => by have := HS.out g hg; omega)
          have h4 : v5.ownBlock = (Value.slice a5 LJ.length p5).ownBlock ∨ v5.ownBlock = some (wr.alloc (.cells #[.int .u8 0] 5)).heap.size := h4
          have S5 : Hid (∀ g, v5.ownBlock = some g → (lo ≤ g ∧ g < hi) ∨ w.heap.size + 2 ≤ g) := fun g hg => by
            rcases h4 with h4 | h4
            · exact HS.out g (by rw [← h4]; exact hg)
            · rw [h4] at hg; cases hg; have := HR.out.lt; simp; omega
          rw [← HP] at o5
          obtain ⟨a6, p6, hf⟩ := o5.form
          subst hf
          have O5 : Hid _ := o5
          clear o5 b5 h4 HP b0 b1 f0 f1 bz HL HR HB HS HO
          have b0 := L5.cell 0 rfl
          have b1 := L5.cell 1 rfl
          have f0 := L5.frozen 0
          have f1 := L5.frozen 1
          have bz := L5.lt
          have L5 : Hid _ := L5
          have R5 : Hid _ := R5
          have B5 : Hid _ := B5
          repeat (first | go_values | go_skip | go_guarded | go_step | go_upon)
          have e9 : ((n + (j + 1) : Nat) : Int) = (N : Int) + 1 := by have := HN.out; omega
          refine ⟨⟨j + 1, .slice a6 RL.length p6, by omega, by have := HM.out; congr 1; omega, ?_, S5.out, ?_, ?_, ?_⟩, by simp [intOf]⟩
          · rw [HT.out, HL0.out]
            exact BytO.low (own_away O5.out (((But.refl w.heap.size (w.heap.size + 1) _).setCell (Nat.le_refl _) (Nat.lt_succ_self _) _).setCell (Nat.le_refl _) (Nat.lt_succ_self _) _) (fun g hg => by have := S5.out g hg; omega))
          · rw [e9]; exact Loc.set (Loc.set L5.out 1 _) 0 _
          · exact Loc.other (Loc.other R5.out (by omega) _) (by omega) _
          · exact But.setNew (But.setNew B5.out (Nat.le_refl _) _) (Nat.le_refl _) _
        · have hp1 : ((N : Int) % 8 == 0) = false := by simp; omega
          have HP : RL = LJ := by rw [← HRR.out]; exact if_neg hp
          subst HP
          clear hp
          obtain ⟨a5, p5, hf⟩ := HO.out.form
          subst hf
          repeat (first | go_values | go_skip | go_guarded | go_step | go_upon)
          have e9 : ((n + (j + 1) : Nat) : Int) = (N : Int) + 1 := by have := HN.out; omega
          refine ⟨⟨j + 1, .slice a5 RL.length p5, by omega, by have := HM.out; congr 1; omega, ?_, HS.out, ?_, ?_, ?_⟩, by simp [intOf]⟩
          · rw [HT.out, HL0.out]
            exact BytO.low (own_away HO.out ((But.refl w.heap.size (w.heap.size + 1) _).setCell (Nat.le_refl _) (Nat.lt_succ_self _) _) (fun g hg => by have := HS.out g hg; omega))
          · rw [e9]; exact Loc.set HL.out 0 _
          · exact Loc.other HR.out (by omega) _
          · exact But.setNew HB.out (Nat.le_refl _) _
      · have hbit : bits .and .i64 ((x : Int) / 2 ^ k) 1 = 1 := by rw [i64_bit x k hx, hB]; rfl
        have HT := HT.out 1 hB
        have HT : Hid _ := HT
        clear hB
        rcases Decidable.em (N % 8 = 0) with hp | hp
        · have hp1 : ((N : Int) % 8 == 0) = true := by simp; omega
          have HP : RL = LJ ++ [0] := by rw [← HRR.out]; exact if_pos hp
          clear hp
          obtain ⟨a5, p5, hf⟩ := HO.out.form
          subst hf
          repeat (first | (at_builtin; refine forgetL (fun w' => w' = _) rfl ?_) | go_values | go_skip | go_guarded | go_step | go_upon)
          intro W7 hW7
          rw [hW7]
          clear hW7 W7
          refine app1_byt rfl _ _ rfl (lo := lo) (hi := wr.heap.size) rfl (HO.out.kept ((But.refl _ _ _).alloc _)) 0 rfl (Loc.new wr [.int .u8 0] 5) (by have := HLL.out; omega) (by simp; omega) ?_
          intro v5 w5 o5 b5 h4
          have L5 : Loc w5 w.heap.size [.int .i64 (N : Int), .slice a5 LJ.length p5] := loc_own (HL.out.alloc _) b5 (fun g hg => by have := HS.out g hg; omega)
          have R5 : Loc w5 (w.heap.size + 1) [.int .i64 0, .slice none 0 0] := loc_own (HR.out.alloc _) b5 (fun g hg => by have := HS.out g hg; omega)
          have B5 : But lo hi w w5 := but_own (HB.out.alloc _) b5 (fun g hg => by have := HS.out g hg; omega)
          have h4 : v5.ownBlock = (Value.slice a5 LJ.length p5).ownBlock ∨ v5.ownBlock = some (wr.alloc (.cells #[.int .u8 0] 5)).heap.size := h4
          have S5 : Hid (∀ g, v5.ownBlock = some g → (lo ≤ g ∧ g < hi) ∨ w.heap.size + 2 ≤ g) := fun g hg => by
            rcases h4 with h4 | h4
            · exact HS.out g (by rw [← h4]; exact hg)
            · rw [h4] at hg; cases hg; have := HR.out.lt; simp; omega
          rw [← HP] at o5
          obtain ⟨a6, p6, hf⟩ := o5.form
          subst hf
          have O5 : Hid _ := o5
          clear o5 b5 h4 HP b0 b1 f0 f1 bz HL HR HB HS HO
          have b0 := L5.cell 0 rfl
          have b1 := L5.cell 1 rfl
          have f0 := L5.frozen 0
          have f1 := L5.frozen 1
          have bz := L5.lt
          have L5 : Hid _ := L5
          have R5 : Hid _ := R5
          have B5 : Hid _ := B5
          obtain ⟨g, hg, hog⟩ := own_of O5.out HXR.out
          subst hg
          have HG := S5.out g hog
          have ⟨c0, cf⟩ := BytO.cells O5.out HXR.out
          have c0f := cf (N / 8)
          have hgb : g ≠ w.heap.size := by omega
          have hgb2 : w.heap.size ≠ g := by omega
          have hor : bits .or .u8 (xr.toNat : Int) (128 / 2 ^ (N % 8)) = ((orB xr 1 (N % 8)).toNat : Int) := by rw [shl_128 _ (Nat.mod_lt _ (by omega))]; exact orB_int xr 1 (N % 8) (by omega)
          clear cf
          repeat (first | go_values | go_skip | go_guarded | go_step | go_upon)
          go_big_region
          repeat (first | go_values | go_skip | go_guarded | go_step | go_upon)
          have e9 : ((n + (j + 1) : Nat) : Int) = (N : Int) + 1 := by have := HN.out; omega
          refine ⟨⟨j + 1, .slice (some ⟨g, 0, none⟩) RL.length p6, by omega, by have := HM.out; congr 1; omega, ?_, S5.out, ?_, ?_, ?_⟩, by simp [intOf]⟩
          · rw [HT.out, HL1.out]
            have q := BytO.set (own_away O5.out (but_one (i := 1) (But.refl w.heap.size (w.heap.size + 1) _) (.slice (some ⟨g, 0, none⟩) RL.length p6)) (fun g hg => by have := S5.out g hg; omega)) rfl HXR.out (orB xr 1 (N % 8))
            have q2 := own_away (BytO.kept q ((But.refl _ _ _).drew)) (but_one (i := 0) (But.refl w.heap.size (w.heap.size + 1) _) (.int .i64 ((N : Int) + 1))) (fun g hg => by have := S5.out g hg; omega)
            rw [← List.length_set (i := N / 8) (a := orB xr 1 (N % 8))] at q2 ⊢
            exact BytO.low q2
          · rw [e9]; exact Loc.set (Loc.kept (Loc.other (Loc.set L5.out 1 _) hgb2 _) (But.drew (But.refl _ _ _))) 0 _
          · exact Loc.other (Loc.kept (Loc.other (Loc.other R5.out (by omega) _) (by omega) _) (But.drew (But.refl _ _ _))) (by omega) _
          · exact But.setNew (But.drew (but_put (But.setNew B5.out (Nat.le_refl _) _) _ (by omega))) (Nat.le_refl _) _
        · have hp1 : ((N : Int) % 8 == 0) = false := by simp; omega
          have HP : RL = LJ := by rw [← HRR.out]; exact if_neg hp
          subst HP
          clear hp
          obtain ⟨a5, p5, hf⟩ := HO.out.form
          subst hf
          obtain ⟨g, hg, hog⟩ := own_of HO.out HXR.out
          subst hg
          have HG := HS.out g hog
          have ⟨c0, cf⟩ := BytO.cells HO.out HXR.out
          have c0f := cf (N / 8)
          have hgb : g ≠ w.heap.size := by omega
          have hgb2 : w.heap.size ≠ g := by omega
          have hor : bits .or .u8 (xr.toNat : Int) (128 / 2 ^ (N % 8)) = ((orB xr 1 (N % 8)).toNat : Int) := by rw [shl_128 _ (Nat.mod_lt _ (by omega))]; exact orB_int xr 1 (N % 8) (by omega)
          clear cf
          repeat (first | go_values | go_skip | go_guarded | go_step | go_upon)
          go_big_region
          repeat (first | go_values | go_skip | go_guarded | go_step | go_upon)
          have e9 : ((n + (j + 1) : Nat) : Int) = (N : Int) + 1 := by have := HN.out; omega
          refine ⟨⟨j + 1, .slice (some ⟨g, 0, none⟩) RL.length p5, by omega, by have := HM.out; congr 1; omega, ?_, HS.out, ?_, ?_, ?_⟩, by simp [intOf]⟩
          · rw [HT.out, HL1.out]
            have q := BytO.set (own_away HO.out (But.refl w.heap.size (w.heap.size + 1) _) (fun g hg => by have := HS.out g hg; omega)) rfl HXR.out (orB xr 1 (N % 8))
            have q2 := own_away (BytO.kept q ((But.refl _ _ _).drew)) (but_one (i := 0) (But.refl w.heap.size (w.heap.size + 1) _) (.int .i64 ((N : Int) + 1))) (fun g hg => by have := HS.out g hg; omega)
            rw [← List.length_set (i := N / 8) (a := orB xr 1 (N % 8))] at q2 ⊢
            exact BytO.low q2
          · rw [e9]; exact Loc.set (Loc.kept (Loc.other HL.out hgb2 _) (But.drew (But.refl _ _ _))) 0 _
          · exact Loc.other (Loc.kept (Loc.other HR.out (by omega) _) (But.drew (But.refl _ _ _))) (by omega) _
          · exact But.setNew (But.drew (but_put HB.out _ (by omega))) (Nat.le_refl _) _
    · have hjm : j = m := by omega
      subst hjm
      obtain ⟨a5, p5, hf⟩ := HO.out.form
      subst hf
      have b0 := HL.out.cell 0 rfl
      have b1 := HL.out.cell 1 rfl
      have c0 := HR.out.cell 0 rfl
      have c1 := HR.out.cell 1 rfl
      have f0 := HR.out.frozen 0
      have f1 := HR.out.frozen 1
      repeat (first | go_values | go_skip | go_guarded | go_step | go_upon)
      refine bodyPost_ret (v := .agg #[.int .i64 ((n + j : Nat) : Int), .slice a5 (layM n l x j j).length p5]) (by simp [results, Try.results21, go_sem, *]) rfl ?_
      have BB : But (w.heap.size + 1) (w.heap.size + 2) wr ((wr.setCell ⟨w.heap.size + 1, 0, none⟩ (.int .i64 ((n : Int) + j))).setCell ⟨w.heap.size + 1, 1, none⟩ (.slice a5 (layM n l x j j).length p5)) := but_one (but_one (But.refl _ _ _) _) _
      refine ⟨_, rfl, ⟨_, rfl, ?_⟩, (HB.out.setNew (by simp) _).setNew (by simp) _⟩
      refine (BytO.low (own_away HO.out BB (fun g hg => by have := HS.out g hg; omega)))

end Go.Proofs.Ytaadlhcpgjibeaa

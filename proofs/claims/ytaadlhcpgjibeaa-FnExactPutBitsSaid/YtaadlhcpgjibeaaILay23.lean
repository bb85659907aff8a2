/-
  The program lays all that a reader gives.
-/
import Derived.Test.YtaadlhcpgjibeaaNNext23
namespace Go.Proofs.Ytaadlhcpgjibeaa
open Go.ChangeShapes Go.WideShapes Go.ChangeAt Go.RowKit

set_option maxRecDepth 100000
set_option linter.unusedVariables false
set_option linter.unusedSimpArgs false

set_option maxHeartbeats 16000000 in
theorem ilay (n : Nat) (l : List UInt8) (x m lo hi rb : Nat) (v : Value) (W0 w : World) (hv : BitsO w lo hi v ((n : Int), l)) (hl : l.length = (n + 7) / 8) (hn : n ≤ 4000) (hm : m ≤ 32) (hx : x < 4294967296)
    (K0 : Kept W0 w) (h0 : W0.heap.size ≤ lo) (hlo : lo ≤ hi) (hhi : hi ≤ rb) (hrb : rb < w.heap.size) (hR : Loc w rb [.int .i64 (x : Int), .int .i64 (m : Int)]) :
    Calls Try.prog 25 #[v, .iface 47 (.pointer (some ⟨rb, 0, none⟩))] w fun e w' => ∃ v', e = .returned (.tuple #[v', .bool (decide (n + m ≤ 4000))]) ∧ BitsO w' lo w'.heap.size v' (if n + m ≤ 4000 then (((n + m : Nat) : Int), layM n l x m m) else (0, [])) ∧ Kept W0 w' := by
  obtain ⟨ao, cap, hfm⟩ := hv.form
  subst hfm
  have hr := hv.row
  dsimp only at hr
  have hin : ∀ g, (Value.slice ao l.length cap).ownBlock = some g → lo ≤ g ∧ g < hi := fun g hg => ⟨(own_lt hr.1 hg).1, hr.2 g hg⟩
  have HLN : Hid (l.length = (n + 7) / 8) := hl
  clear hl
  obtain ⟨W1, hW1⟩ : ∃ W1, W1 = (w.alloc (.cells #[.int .i64 (n : Int), .slice ao l.length cap] 27)).alloc (.cells #[.int .i64 0, .slice none 0 0] 27) := ⟨_, rfl⟩
  have K1 : Kept w W1 := by rw [hW1]; exact ((But.refl _ _ _).alloc _).alloc _
  have s1 : W1.heap.size = w.heap.size + 2 := by rw [hW1]; simp
  have L1 : Loc W1 w.heap.size [.int .i64 (n : Int), .slice ao l.length cap] := by rw [hW1]; exact (Loc.new w [.int .i64 (n : Int), .slice ao l.length cap] 27).alloc _
  have L2 : Loc W1 (w.heap.size + 1) [.int .i64 0, .slice none 0 0] := by
    rw [hW1]
    have := Loc.new (w.alloc (.cells #[.int .i64 (n : Int), .slice ao l.length cap] 27)) [.int .i64 0, .slice none 0 0] 27
    simpa using this
  have L3 := hR.kept K1
  have KW := K0.trans K1
  have hw0 := K0.size
  have R1 : BytO W1 lo W1.heap.size (.slice ao l.length cap) l := (hr.kept K1).mono (Nat.le_refl _) (by omega)
  go_enter Try.func25, Try.ntmps25
  repeat (first | go_values | go_skip | go_guarded | go_step | go_upon)
  rw [← hW1]
  clear hW1
  refine (nstep x 0 m rb W1 hx hm (by simpa using L3)).mono ?_
  rintro e W2 ⟨rfl, k2, L3⟩
  have K2 : Kept W0 W2 := KW.onto k2 (by omega)
  have L1 := L1.but k2 (by omega)
  have L2 := L2.but k2 (by omega)
  have R2 := own_away R1 k2 (fun g hg => by have := hin g hg; omega)
  have s2 := k2.size
  have R2 := R2.low
  clear k2 R1 hR hv hr
  have HIN : Hid _ := hin
  clear hin
  dsimp only
  repeat (first | go_values | go_skip | go_guarded | go_step | go_upon)
  go_loopw [6, 7] (fun bit fl wr => ∃ (j : Nat) (s : Value), j ≤ m ∧ n + j ≤ 4000 ∧ bit = .int .i64 (bitOf x m j : Nat) ∧ fl = .bool (decide (j < m)) ∧ Hid (BytO wr lo wr.heap.size s (layM n l x m j)) ∧ Hid (∀ g, s.ownBlock = some g → (lo ≤ g ∧ g < hi) ∨ w.heap.size + 2 ≤ g) ∧ Hid (Loc wr w.heap.size [.int .i64 ((n + j : Nat) : Int), s]) ∧ Hid (Loc wr (w.heap.size + 1) [.int .i64 0, .slice none 0 0]) ∧ Hid (Loc wr rb [.int .i64 (x : Int), .int .i64 ((m - 1 - j : Nat) : Int)]) ∧ Hid (Kept W0 wr)) (fun _ _ wr => n + m - (intOf ((wr.cell? ⟨w.heap.size, 0, none⟩).getD undef)).toNat)
  case atStart => exact ⟨0, _, by omega, by omega, rfl, rfl, R2, fun g hg => .inl (HIN.out g hg), L1, L2, L3, K2⟩
  case round =>
    obtain ⟨j, s, hj, hj4, rfl, rfl, HO, HS, HL, HR, HD, HB⟩ := hrel
    have b0 := HL.out.cell 0 rfl
    have b1 := HL.out.cell 1 rfl
    have c0 := HR.out.cell 0 rfl
    have c1 := HR.out.cell 1 rfl
    have g0 := HR.out.frozen 0
    have g1 := HR.out.frozen 1
    have bz := HR.out.lt
    obtain ⟨a5, p5, hf⟩ := HO.out.form
    subst hf
    by_cases hlt : j < m
    · have dj : decide (j < m) = true := decide_eq_true hlt
      rw [dj]
      by_cases h4 : n + j = 4000
      · have HA : Hid (decide (n + m ≤ 4000) = false ∧ (if n + m ≤ 4000 then (((n + m : Nat) : Int), layM n l x m m) else (0, [])) = ((0 : Int), ([] : List UInt8))) := ⟨decide_eq_false (by omega), if_neg (by omega)⟩
        rw [h4] at b0
        clear h4 dj
        repeat (first | go_values | go_skip | go_guarded | go_step | go_upon)
        refine bodyPost_ret (v := .tuple #[.agg #[.int .i64 0, .slice none 0 0], .bool false]) (by simp [results, Try.results25, go_sem, *]) rfl ?_
        rw [HA.out.1, HA.out.2]
        exact ⟨_, rfl, ⟨_, rfl, nil_byt _ _ _⟩, But.setNew (But.setNew HB.out (by simp; omega) _) (by simp; omega) _⟩
      · obtain ⟨N, hN⟩ : ∃ N, n + j = N := ⟨_, rfl⟩
        obtain ⟨LJ, hLJ⟩ : ∃ LJ, layM n l x m j = LJ := ⟨_, rfl⟩
        have hLL : LJ.length = (N + 7) / 8 := by rw [← hLJ, ← hN]; exact layM_len x m HLN.out j
        obtain ⟨B, hB⟩ : ∃ B, bitOf x m j = B := ⟨_, rfl⟩
        have HT : Hid (layM n l x m (j + 1) = layB N LJ B) := by show _ = _; rw [layM, hN, hLJ, ← hB, bitOf, if_pos hlt]
        have hB2 : B < 2 := hB ▸ bitOf_lt x m j
        have HN : Hid (n + j = N) := hN
        rw [hLJ] at HO HL b1 HS
        rw [hN] at HL b0 h4 hj4
        rw [hB]
        obtain ⟨xr, hxr⟩ := room_at hLL
        obtain ⟨RL, hRL⟩ : ∃ RL, roomB N LJ = RL := ⟨_, rfl⟩
        have hrl := roomB_len hLL
        rw [hRL] at hxr hrl
        have hi8 : N / 8 = RL.length - 1 := by omega
        rw [hi8] at hxr
        have HRR : Hid (roomB N LJ = RL) := hRL
        have HXR : Hid (RL[RL.length - 1]? = some xr) := hxr
        have HL1 : Hid (layB N LJ B = RL.set (RL.length - 1) (orB xr B (N % 8))) := by show _ = _; rw [layB, hRL, hi8, hxr]; rfl
        have hrp : 0 < RL.length := by omega
        have hr9 : RL.length ≤ 20000 := by omega
        have hor : bits .or .u8 (xr.toNat : Int) (wrap64 ((B : Int) * 2 ^ (7 - N % 8)) % 256) = ((orB xr B (N % 8)).toNat : Int) := orB_lay xr B (N % 8) hB2
        have h4' : ((N : Int) == 4000) = false := by simp; omega
        have H44 : Hid (N < 4000) := by show N < 4000; omega
        have B00 : Hid _ := b0
        have HLL : Hid (LJ.length = (N + 7) / 8) := hLL
        clear hLJ hN hxr hLL hrl hi8 hRL h4 hB dj
        rcases Decidable.em (N % 8 = 0) with hp | hp
        · have hp1 : ((N : Int) % 8 == 0) = true := by simp; omega
          have HP : RL = LJ ++ [0] := by rw [← HRR.out]; exact if_pos hp
          clear hp
          repeat (first | (at_builtin; refine forgetL (fun w' => w' = _) rfl ?_) | go_values | go_skip | go_guarded | go_step | go_upon)
          intro W7 hW7
          rw [hW7]
          clear hW7 W7
          refine app1_byt rfl _ _ rfl (lo := lo) (hi := wr.heap.size) rfl (HO.out.kept ((But.refl _ _ _).alloc _)) 0 rfl (Loc.new wr [.int .u8 0] 5) (by have := HLL.out; omega) (by simp; omega) ?_
          intro v5 w5 o5 b5 h4
          have L5 : Loc w5 w.heap.size [.int .i64 (N : Int), .slice a5 LJ.length p5] := loc_own (HL.out.alloc _) b5 (fun g hg => by have := HS.out g hg; omega)
          have R5 : Loc w5 (w.heap.size + 1) [.int .i64 0, .slice none 0 0] := loc_own (HR.out.alloc _) b5 (fun g hg => by have := HS.out g hg; omega)
          have D5 : Loc w5 rb [.int .i64 (x : Int), .int .i64 ((m - 1 - j : Nat) : Int)] := loc_own (HD.out.alloc _) b5 (fun g hg => by have := HS.out g hg; omega)
          have B5 : Kept W0 w5 := but_own (HB.out.alloc _) b5 (fun g hg => by have := HS.out g hg; omega)
          have h4 : v5.ownBlock = (Value.slice a5 LJ.length p5).ownBlock ∨ v5.ownBlock = some (wr.alloc (.cells #[.int .u8 0] 5)).heap.size := h4
          have S5 : Hid (∀ g, v5.ownBlock = some g → (lo ≤ g ∧ g < hi) ∨ w.heap.size + 2 ≤ g) := fun g hg => by
            rcases h4 with h4 | h4
            · exact HS.out g (by rw [← h4]; exact hg)
            · rw [h4] at hg; cases hg; have := HR.out.lt; simp; omega
          rw [← HP] at o5
          obtain ⟨a6, p6, hf⟩ := o5.form
          subst hf
          have O5 : Hid _ := o5
          clear o5 b5 h4 HP b0 b1 c0 c1 g0 g1 bz HL HR HB HS HO HD
          have b0 := L5.cell 0 rfl
          have b1 := L5.cell 1 rfl
          have f0 := L5.frozen 0
          have f1 := L5.frozen 1
          have bz := R5.lt
          have L5 : Hid _ := L5
          have R5 : Hid _ := R5
          have D5 : Hid _ := D5
          have B5 : Hid _ := B5
          obtain ⟨g, hg, hog⟩ := own_of O5.out HXR.out
          subst hg
          have HG := S5.out g hog
          have ⟨c0, cf⟩ := BytO.cells O5.out HXR.out
          have c0f := cf (RL.length - 1)
          have hgb : g ≠ w.heap.size := by omega
          have hgb2 : w.heap.size ≠ g := by omega
          clear cf
          repeat (first | go_values | go_skip | go_guarded | go_step | go_upon)
          go_big_region
          repeat (first | go_values | go_skip | go_guarded | go_step | go_upon)
          obtain ⟨Wn, hWn⟩ : ∃ Wn, Wn = ((((w5.setCell ⟨w.heap.size, 1, none⟩ (.slice (some ⟨g, 0, none⟩) RL.length p6)).setCell ⟨g, RL.length - 1, none⟩ (.int .u8 ((orB xr B (N % 8)).toNat : Int))).setCell ⟨w.heap.size, 0, none⟩ (.int .i64 ((N : Int) + 1))).drew) := ⟨_, rfl⟩
          have LN : Loc Wn w.heap.size [.int .i64 ((N : Int) + 1), .slice (some ⟨g, 0, none⟩) RL.length p6] := by rw [hWn]; exact Loc.kept (Loc.set (Loc.other (Loc.set L5.out 1 _) hgb2 _) 0 _) (But.drew (But.refl _ _ _))
          have RN : Loc Wn (w.heap.size + 1) [.int .i64 0, .slice none 0 0] := by rw [hWn]; exact Loc.kept (Loc.other (Loc.other (Loc.other R5.out (by omega) _) (by omega) _) (by omega) _) (But.drew (But.refl _ _ _))
          have DN : Loc Wn rb [.int .i64 (x : Int), .int .i64 ((m - 1 - j : Nat) : Int)] := by rw [hWn]; exact Loc.kept (Loc.other (Loc.other (Loc.other D5.out (by omega) _) (by omega) _) (by omega) _) (But.drew (But.refl _ _ _))
          have KN : Kept W0 Wn := by rw [hWn]; exact But.drew (but_put (but_put (but_put B5.out _ (by omega)) _ (by omega)) _ (by omega))
          have sN : Wn.heap.size = w5.heap.size := by rw [hWn]; simp
          have ON : BytO Wn lo Wn.heap.size (.slice (some ⟨g, 0, none⟩) RL.length p6) (layM n l x m (j + 1)) := by
            rw [HT.out, HL1.out]
            have q := BytO.set (own_away O5.out (but_one (i := 1) (But.refl w.heap.size (w.heap.size + 1) _) (.slice (some ⟨g, 0, none⟩) RL.length p6)) (fun g hg => by have := S5.out g hg; omega)) rfl HXR.out (orB xr B (N % 8))
            have q2 := own_away q (but_one (i := 0) (But.refl w.heap.size (w.heap.size + 1) _) (.int .i64 ((N : Int) + 1))) (fun g hg => by have := S5.out g hg; omega)
            rw [← List.length_set (i := RL.length - 1) (a := orB xr B (N % 8))] at q2 ⊢
            rw [hWn]
            simp only [List.length_set] at q2 ⊢
            exact BytO.low (BytO.kept q2 ((But.refl _ _ _).drew))
          have hg3 : ∀ h, (Value.slice (some ⟨g, 0, none⟩) RL.length p6).ownBlock = some h → h = g := fun h hh => by cases hh; rfl
          rw [← hWn]
          refine (nstep x (j + 1) m rb Wn hx hm (by rw [show m - (j + 1) = m - 1 - j by omega]; exact DN)).mono ?_
          rintro e w8 ⟨rfl, k8, D8⟩
          have L8 := LN.but k8 (by omega)
          have R8 := RN.but k8 (by omega)
          have O8 := own_away ON k8 (fun h hh => by have := hg3 h hh; omega)
          have K8 : Hid (Kept W0 w8) := KN.onto k8 (by omega)
          have s8 := k8.size
          have O8 : Hid (BytO w8 lo w8.heap.size (.slice (some ⟨g, 0, none⟩) RL.length p6) (layM n l x m (j + 1))) := BytO.low O8
          have e9 : ((n + (j + 1) : Nat) : Int) = (N : Int) + 1 := by have := HN.out; omega
          have c8 := L8.cell 0 rfl
          have L8 : Hid (Loc w8 w.heap.size [.int .i64 ((n + (j + 1) : Nat) : Int), .slice (some ⟨g, 0, none⟩) RL.length p6]) := by rw [e9]; exact L8
          have R8 : Hid _ := R8
          have D8 : Hid _ := D8
          have C8 : Hid _ := c8
          have HJ : Hid (j + 1 ≤ m ∧ n + (j + 1) ≤ 4000) := by have := HN.out; have := H44.out; exact ⟨by omega, by omega⟩
          clear k8 LN RN DN KN ON hWn c8 e9
          dsimp only
          repeat (first | go_values | go_skip | go_guarded | go_step | go_upon)
          refine ⟨⟨j + 1, .slice (some ⟨g, 0, none⟩) RL.length p6, HJ.out.1, HJ.out.2, rfl, rfl, O8.out, S5.out, L8.out, R8.out, D8.out, K8.out⟩, ?_⟩
          rw [C8.out, B00.out]
          have := HJ.out
          have := HN.out
          simp [intOf]
          omega
        · have hp1 : ((N : Int) % 8 == 0) = false := by simp; omega
          have HP : RL = LJ := by rw [← HRR.out]; exact if_neg hp
          subst HP
          clear hp
          have f0 := HL.out.frozen 0
          have f1 := HL.out.frozen 1
          clear c0 c1 g0 g1
          obtain ⟨g, hg, hog⟩ := own_of HO.out HXR.out
          subst hg
          have HG := HS.out g hog
          have ⟨c0, cf⟩ := BytO.cells HO.out HXR.out
          have c0f := cf (RL.length - 1)
          have hgb : g ≠ w.heap.size := by omega
          have hgb2 : w.heap.size ≠ g := by omega
          clear cf
          repeat (first | go_values | go_skip | go_guarded | go_step | go_upon)
          go_big_region
          repeat (first | go_values | go_skip | go_guarded | go_step | go_upon)
          obtain ⟨Wn, hWn⟩ : ∃ Wn, Wn = (((wr.setCell ⟨g, RL.length - 1, none⟩ (.int .u8 ((orB xr B (N % 8)).toNat : Int))).setCell ⟨w.heap.size, 0, none⟩ (.int .i64 ((N : Int) + 1))).drew) := ⟨_, rfl⟩
          have LN : Loc Wn w.heap.size [.int .i64 ((N : Int) + 1), .slice (some ⟨g, 0, none⟩) RL.length p5] := by rw [hWn]; exact Loc.kept (Loc.set (Loc.other HL.out hgb2 _) 0 _) (But.drew (But.refl _ _ _))
          have RN : Loc Wn (w.heap.size + 1) [.int .i64 0, .slice none 0 0] := by rw [hWn]; exact Loc.kept (Loc.other (Loc.other HR.out (by omega) _) (by omega) _) (But.drew (But.refl _ _ _))
          have DN : Loc Wn rb [.int .i64 (x : Int), .int .i64 ((m - 1 - j : Nat) : Int)] := by rw [hWn]; exact Loc.kept (Loc.other (Loc.other HD.out (by omega) _) (by omega) _) (But.drew (But.refl _ _ _))
          have KN : Kept W0 Wn := by rw [hWn]; exact But.drew (but_put (but_put HB.out _ (by omega)) _ (by omega))
          have sN : Wn.heap.size = wr.heap.size := by rw [hWn]; simp
          have ON : BytO Wn lo Wn.heap.size (.slice (some ⟨g, 0, none⟩) RL.length p5) (layM n l x m (j + 1)) := by
            rw [HT.out, HL1.out]
            have q := BytO.set (own_away HO.out (But.refl w.heap.size (w.heap.size + 1) _) (fun g hg => by have := HS.out g hg; omega)) rfl HXR.out (orB xr B (N % 8))
            have q2 := own_away q (but_one (i := 0) (But.refl w.heap.size (w.heap.size + 1) _) (.int .i64 ((N : Int) + 1))) (fun g hg => by have := HS.out g hg; omega)
            rw [← List.length_set (i := RL.length - 1) (a := orB xr B (N % 8))] at q2 ⊢
            rw [hWn]
            simp only [List.length_set] at q2 ⊢
            exact BytO.low (BytO.kept q2 ((But.refl _ _ _).drew))
          have hg3 : ∀ h, (Value.slice (some ⟨g, 0, none⟩) RL.length p5).ownBlock = some h → h = g := fun h hh => by cases hh; rfl
          rw [← hWn]
          refine (nstep x (j + 1) m rb Wn hx hm (by rw [show m - (j + 1) = m - 1 - j by omega]; exact DN)).mono ?_
          rintro e w8 ⟨rfl, k8, D8⟩
          have L8 := LN.but k8 (by omega)
          have R8 := RN.but k8 (by omega)
          have O8 := own_away ON k8 (fun h hh => by have := hg3 h hh; omega)
          have K8 : Hid (Kept W0 w8) := KN.onto k8 (by omega)
          have s8 := k8.size
          have O8 : Hid (BytO w8 lo w8.heap.size (.slice (some ⟨g, 0, none⟩) RL.length p5) (layM n l x m (j + 1))) := BytO.low O8
          have e9 : ((n + (j + 1) : Nat) : Int) = (N : Int) + 1 := by have := HN.out; omega
          have c8 := L8.cell 0 rfl
          have L8 : Hid (Loc w8 w.heap.size [.int .i64 ((n + (j + 1) : Nat) : Int), .slice (some ⟨g, 0, none⟩) RL.length p5]) := by rw [e9]; exact L8
          have R8 : Hid _ := R8
          have D8 : Hid _ := D8
          have C8 : Hid _ := c8
          have HJ : Hid (j + 1 ≤ m ∧ n + (j + 1) ≤ 4000) := by have := HN.out; have := H44.out; exact ⟨by omega, by omega⟩
          clear k8 LN RN DN KN ON hWn c8 e9
          dsimp only
          repeat (first | go_values | go_skip | go_guarded | go_step | go_upon)
          refine ⟨⟨j + 1, .slice (some ⟨g, 0, none⟩) RL.length p5, HJ.out.1, HJ.out.2, rfl, rfl, O8.out, HS.out, L8.out, R8.out, D8.out, K8.out⟩, ?_⟩
          rw [C8.out, B00.out]
          have := HJ.out
          have := HN.out
          simp [intOf]
          omega
    · have hjm : j = m := by omega
      subst hjm
      have dj : decide (j < j) = false := decide_eq_false (by omega)
      rw [dj]
      have HA : Hid (decide (n + j ≤ 4000) = true ∧ (if n + j ≤ 4000 then (((n + j : Nat) : Int), layM n l x j j) else (0, [])) = (((n + j : Nat) : Int), layM n l x j j)) := ⟨decide_eq_true (by omega), if_pos (by omega)⟩
      clear dj
      repeat (first | go_values | go_skip | go_guarded | go_step | go_upon)
      rw [HA.out.1, HA.out.2]
      have q := own_away HO.out (but_in (i := 1) (but_in (i := 0) (But.refl (w.heap.size + 1) (w.heap.size + 2) wr) (b := w.heap.size + 1) (Nat.le_refl _) (by omega) (.int .i64 ((n : Int) + j))) (b := w.heap.size + 1) (Nat.le_refl _) (by omega) (.slice a5 (layM n l x j j).length p5)) (fun g hg => by have := HS.out g hg; omega)
      refine bodyPost_ret (v := .tuple #[.agg #[.int .i64 ((n + j : Nat) : Int), .slice a5 (layM n l x j j).length p5], .bool true]) (by simp [results, Try.results25, go_sem, *]) rfl ?_
      exact ⟨_, rfl, ⟨_, rfl, q.low⟩, But.setNew (But.setNew HB.out (by simp; omega) _) (by simp; omega) _⟩

end Go.Proofs.Ytaadlhcpgjibeaa

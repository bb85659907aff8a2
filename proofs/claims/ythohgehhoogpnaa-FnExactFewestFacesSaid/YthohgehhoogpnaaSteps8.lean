/-
  How far each face is, in the program.
-/
import Derived.Test.YthohgehhoogpnaaFewS8
import Derived.Maps.AppendAt
import Derived.Deep.MidRow
namespace Go.Proofs.Ythohgehhoogpnaa
open Go.ChangeShapes Go.WideShapes Go.ChangeAt Go.RowKit

set_option maxRecDepth 100000
set_option linter.unusedVariables false
/-- An array of whole numbers in a block of its own. -/
def ArrO (w : World) (B : Nat) (l : List NumD) : Prop := Loc w B (l.map (Value.int .i64))
theorem ArrO.kept {w w' : World} {B : Nat} {l : List NumD} (h : ArrO w B l) (k : Kept w w') : ArrO w' B l := Loc.kept h k
theorem ArrO.but {w w' : World} {B lo hi : Nat} {l : List NumD} (h : ArrO w B l) (k : But lo hi w w') (ho : B < lo ∨ hi ≤ B) : ArrO w' B l := Loc.but h k ho
theorem ArrO.cell {w : World} {B j : Nat} {l : List NumD} {x : Int} (h : ArrO w B l) (hj : l[j]? = some x) : w.cell? ⟨B, j, none⟩ = some (.int .i64 x) := Loc.cell h j (by rw [List.getElem?_map, hj]; rfl)
theorem ArrO.set {w : World} {B : Nat} {l : List NumD} (h : ArrO w B l) (j : Nat) (x : Int) : ArrO (w.setCell ⟨B, j, none⟩ (.int .i64 x)) B (l.set j x) := by
  unfold ArrO
  rw [List.map_set]
  exact Loc.set h j _

theorem But.setCells {lo hi B : Nat} {a : World} : ∀ (vs : List Value) (o : Nat) {b : World}, But lo hi a b → lo ≤ B → B < hi → But lo hi a (b.setCells B o vs)
  | [], _, _, h, _, _ => h
  | v :: vs, o, b, h, h1, h2 => But.setCells vs (o + 1) (h.setCell (p := ⟨B, o, none⟩) h1 h2 v) h1 h2
def rI (r : List Nat) : List NumD := r.map fun (x : Nat) => (x : Int)
set_option maxHeartbeats 8000000 in
theorem isteps (g : GroundD) (pv fv : Value) (w : World) (lo hi : Nat) (hF : LLO w lo hi fv g.2) (hg20 : g.2.length ≤ 20) (Y : Nat) (hYl : Y < g.2.length) (hfo : ∀ f ∈ g.2, FaceOk g.1 f) :
    Calls Try.prog 66 #[.agg #[pv, fv], .int .i64 (Y : Int)] w fun e w' => (∃ far, Fin8 g Y far ∧ (∀ x d, far x = some d → d < 20 ∧ x < g.2.length) ∧ e = .returned (.agg ((tabM 20 far 20).map (Value.int .i64)).toArray)) ∧ Kept w w' := by
  obtain ⟨af, cf, hsl⟩ := hF.form
  subst hsl
  go_enter Try.func66, Try.ntmps66
  repeat (first | go_values | go_skip | go_guarded | go_step | go_upon)
  obtain ⟨W0, hW0⟩ : ∃ W, W = ((w.alloc (.cells #[pv, .slice af g.2.length cf] 26)).alloc (.cells #[.int .i64 0, .int .i64 0, .int .i64 0, .int .i64 0, .int .i64 0, .int .i64 0, .int .i64 0, .int .i64 0, .int .i64 0, .int .i64 0, .int .i64 0, .int .i64 0, .int .i64 0, .int .i64 0, .int .i64 0, .int .i64 0, .int .i64 0, .int .i64 0, .int .i64 0, .int .i64 0] 93)).alloc (.cells #[.int .i64 0, .int .i64 0, .int .i64 0, .int .i64 0, .int .i64 0, .int .i64 0, .int .i64 0, .int .i64 0, .int .i64 0, .int .i64 0, .int .i64 0, .int .i64 0, .int .i64 0, .int .i64 0, .int .i64 0, .int .i64 0, .int .i64 0, .int .i64 0, .int .i64 0, .int .i64 0] 93) := ⟨_, rfl⟩
  have K0 : Kept w W0 := by rw [hW0]; exact (((But.refl _ _ _).alloc _).alloc _).alloc _
  have hs0 : W0.heap.size = w.heap.size + 3 := by rw [hW0]; simp
  have La0 : Loc W0 w.heap.size [pv, .slice af g.2.length cf] := by rw [hW0]; exact ((Loc.new w [pv, .slice af g.2.length cf] 26).alloc _).alloc _
  have Lr0 : Loc W0 (w.heap.size + 1) (List.replicate 20 (.int .i64 0)) := by
    rw [hW0]
    have h9 := (Loc.new (w.alloc (.cells #[pv, .slice af g.2.length cf] 26)) (List.replicate 20 (.int .i64 0)) 93).alloc (.cells #[.int .i64 0, .int .i64 0, .int .i64 0, .int .i64 0, .int .i64 0, .int .i64 0, .int .i64 0, .int .i64 0, .int .i64 0, .int .i64 0, .int .i64 0, .int .i64 0, .int .i64 0, .int .i64 0, .int .i64 0, .int .i64 0, .int .i64 0, .int .i64 0, .int .i64 0, .int .i64 0] 93)
    rw [World.size_alloc] at h9
    exact h9
  have A0 : ArrO W0 (w.heap.size + 2) (List.replicate 20 (0 : Int)) := by
    rw [hW0]
    have h9 := Loc.new ((w.alloc (.cells #[pv, .slice af g.2.length cf] 26)).alloc (.cells #[.int .i64 0, .int .i64 0, .int .i64 0, .int .i64 0, .int .i64 0, .int .i64 0, .int .i64 0, .int .i64 0, .int .i64 0, .int .i64 0, .int .i64 0, .int .i64 0, .int .i64 0, .int .i64 0, .int .i64 0, .int .i64 0, .int .i64 0, .int .i64 0, .int .i64 0, .int .i64 0] 93)) (List.replicate 20 (.int .i64 0)) 93
    rw [World.size_alloc, World.size_alloc] at h9
    exact h9
  rw [← hW0]
  obtain ⟨SB, hSB⟩ : ∃ b, b = w.heap.size + 1 + 1 := ⟨_, rfl⟩
  rw [← hSB]
  have HSB : Hid (SB = w.heap.size + 2) := hSB
  rw [show w.heap.size + 2 = SB by omega] at A0
  rw [show w.heap.size + 3 = SB + 1 by omega] at hs0
  clear hW0 hSB
  obtain ⟨N, hN⟩ : ∃ N : List NumD, N = List.replicate 20 (20 : Int) := ⟨_, rfl⟩
  have HN : Hid (N = List.replicate 20 (20 : Int)) := hN
  have HNL : Hid (N.length = 20) := by show N.length = 20; rw [hN]; rfl
  clear hN
  go_loopw [12] (fun i wr => ∃ k : Nat, k ≤ 20 ∧ i = .int .i64 k ∧ ArrO wr SB (N.take k ++ List.replicate (N.length - k) num0) ∧ But SB (SB + 1) W0 wr ∧ wr.heap.size = SB + 1) (fun i _ => 20 - (intOf i).toNat)
  case atStart =>
    refine ⟨0, by omega, rfl, ?_, But.refl _ _ _, hs0⟩
    rw [HNL.out]
    exact A0
  case round =>
    obtain ⟨k, hk, rfl, hf, hkp, hsz⟩ := hrel
    have HKP : Hid (But SB (SB + 1) W0 wr) := hkp
    have HF1 : Hid (ArrO wr SB (N.take k ++ List.replicate (N.length - k) num0)) := hf
    by_cases hlt : k < 20
    · have hkN : k < N.length := by rw [HNL.out]; exact hlt
      have d0 := hf.cell (fill_get N num0 hkN)
      have dz0 : wr.frozen? ⟨SB, k, none⟩ = false := Loc.frozen hf k
      have k20 : (k : Int) < 20 := by omega
      have HS : Hid (ArrO (wr.setCell ⟨SB, k, none⟩ (.int .i64 20)) SB (N.take (k + 1) ++ List.replicate (N.length - (k + 1)) num0)) := by
        have h9 := hf.set k 20
        have hNk : N[k]? = some 20 := by rw [HN.out, List.getElem?_replicate, if_pos hlt]
        rw [fill_set N num0 hNk] at h9
        exact h9
      clear hf hkp
      repeat (first | go_values | go_skip | go_guarded | go_step | go_upon)
      refine ⟨⟨k + 1, hlt, by go_num, HS.out, HKP.out.setCell (p := ⟨SB, k, none⟩) (Nat.le_refl _) (Nat.lt_succ_self _) _, by simpa [World.setCell] using hsz⟩, by simp [intOf]; omega⟩
    · have hke : k = 20 := by omega
      subst hke
      have HF2 : Hid (ArrO wr SB (tabM 20 (fun _ => none) 20)) := by
        have h9 := HF1.out
        rw [← HNL.out, List.take_length, Nat.sub_self, List.replicate_zero, List.append_nil, HN.out] at h9
        exact h9
      have HF3 : Hid (ArrO (wr.setCell ⟨SB, Y, none⟩ (.int .i64 ((0 : Nat) : Int))) SB (tabM 20 (upd (fun _ => none) Y 0) 20)) := by
        have h9 := HF2.out.set Y ((0 : Nat) : Int)
        rw [tabM_set] at h9
        exact h9
      have d0 := HF2.out.cell (tabM_get 20 (fun _ => none) (show Y < 20 by omega))
      have dz0 : wr.frozen? ⟨SB, Y, none⟩ = false := Loc.frozen HF2.out Y
      have y20 : (Y : Int) < 20 := by omega
      have HB3 : Hid (But SB (SB + 1) W0 (wr.setCell ⟨SB, Y, none⟩ (.int .i64 ((0 : Nat) : Int)))) := HKP.out.setCell (p := ⟨SB, Y, none⟩) (Nat.le_refl _) (Nat.lt_succ_self _) _
      clear hf hkp HF1 HF2
      repeat (first | go_values | go_skip | go_guarded | go_step | go_upon)
      clear d0 dz0
      try rw [show ((20 : Nat) : Int) = (20 : Int) from rfl]
      obtain ⟨W1, hW1⟩ : ∃ W, W = (wr.setCell ⟨SB, Y, none⟩ (.int .i64 0)).alloc (.cells #[.int .i64 (Y : Int)] 3) := ⟨_, rfl⟩
      have hsF : (wr.setCell ⟨SB, Y, none⟩ (.int .i64 0)).heap.size = SB + 1 := by simpa [World.setCell] using hsz
      have HFA : Hid (ArrO W1 SB (tabM 20 (upd (fun _ => none) Y 0) 20)) := by
        have h9 : ArrO W1 SB (tabM 20 (upd (fun _ => none) Y 0) 20) := by rw [hW1]; exact HF3.out.kept ((But.refl _ _ _).alloc _)
        exact h9
      have HWA : Hid (W1.ownsRow (SB + 1) 3 1 (.slice (some ⟨SB + 1, 0, none⟩) 1 1) 1 ((rI [Y]).flatMap numC)) := by
        have h9 : W1.ownsRow (SB + 1) 3 1 (.slice (some ⟨SB + 1, 0, none⟩) 1 1) 1 ((rI [Y]).flatMap numC) := by
          have h8 : W1.heap[SB + 1]? = some (.cells #[.int .i64 (Y : Int)] 3 (0, 0)) := by rw [hW1, ← hsF]; exact heap_alloc_new _ _
          exact ⟨rfl, .inr ⟨SB + 1, 1, _, rfl, Nat.le_refl _, h8, Nat.le_refl _, by unfold maxLen; omega, rfl, rfl⟩⟩
        exact h9
      have HKA : Hid (But SB (SB + 1) W0 W1) := by
        have h9 : But SB (SB + 1) W0 W1 := by rw [hW1]; exact But.alloc HB3.out _
        exact h9
      rw [← hW1]
      try rw [hsz]
      clear hW1 HF3 HB3 HKP hsF hsz
      obtain ⟨i0, hi0, hz0, hz1, hz2⟩ := info_parts info3
      go_loopw [7, 8] (fun rv dv wr => ∃ (r : List Nat) (k : Nat) (far : Nat → Option Nat) (ao : Option Addr) (c : Nat), k ≤ r.length ∧ dv = .int .i64 (k : Int) ∧ rv = .slice ao r.length c ∧ Bfs g Y far r k ∧ ArrO wr SB (tabM 20 far 20) ∧ wr.ownsRow (SB + 1) 3 1 (.slice ao r.length c) r.length ((rI r).flatMap numC) ∧ But SB (SB + 1) W0 wr) (fun rv dv _ => g.2.length - (intOf dv).toNat)
      case atStart => exact ⟨[Y], 0, _, _, 1, by simp, rfl, rfl, bfs_start hYl, HFA.out, HWA.out, HKA.out⟩
      case round =>
        obtain ⟨r, k, far, ao, c, hkr, rfl, rfl, hB, hfO, hown, hkp⟩ := hrel
        have HB : Hid (Bfs g Y far r k) := hB
        have HFO : Hid (ArrO wr SB (tabM 20 far 20)) := hfO
        have HOW : Hid (wr.ownsRow (SB + 1) 3 1 (.slice ao r.length c) r.length ((rI r).flatMap numC)) := hown
        have HKP : Hid (But SB (SB + 1) W0 wr) := hkp
        have hrl := hB.len
        have KW := K0.onto hkp (by have := HSB.out; omega)
        have hwS : SB + 1 ≤ wr.heap.size := by have := hkp.size; omega
        by_cases hlt : k < r.length
        · obtain ⟨x, hx⟩ : ∃ x, r[k]? = some x := ⟨_, List.getElem?_eq_getElem hlt⟩
          obtain ⟨d, hd, hdk, hxl⟩ := hB.get hx
          have hrx : (rI r)[k]? = some (x : Int) := by unfold rI; rw [List.getElem?_map, hx]; rfl
          have hrlen : (rI r).length = r.length := by simp [rI]
          have hrat : NumAt wr (.slice ao (rI r).length c) (rI r) := by
            have := own_row hown
            rw [← hrlen] at this
            exact this
          obtain ⟨b, o, cap1, e, c0⟩ := num_get hrat hrx
          rw [hrlen] at e
          injection e with e1 e2 e3
          subst e1 e3
          have HX : Hid (r[k]? = some x ∧ far x = some d) := ⟨hx, hd⟩
          have LaR := La0.but hkp (by have := HSB.out; omega)
          have a0 := LaR.cell 0 rfl
          have a1 := LaR.cell 1 rfl
          have HSBE : Hid (Calls Try.prog 65 #[.agg #[pv, .slice af g.2.length cf], .int .i64 (x : Int)] wr fun e w' => (∃ v', e = .returned v' ∧ NumO w' wr.heap.size w'.heap.size v' (besM g x g.2.length)) ∧ Kept wr w') := ibeside g _ _ wr lo hi (hF.kept KW) hg20 x hxl hfo
          have hklt : (k : Int) < (r.length : Int) := by omega
          have hbl := besM_len g x g.2.length
          clear hx hd hB hfO hown hkp hrx hrat KW e2 hrlen
          repeat (first | go_values | go_skip | go_guarded | go_step | go_upon)
          refine HSBE.out.mono ?_
          rintro e w3 ⟨⟨bv, rfl, hbo⟩, k3⟩
          obtain ⟨ba, bc, hbf⟩ := hbo.form
          subst hbf
          have HBO : Hid (NumO w3 wr.heap.size w3.heap.size (.slice ba (besM g x g.2.length).length bc) (besM g x g.2.length)) := hbo
          have HK3 : Hid (Kept wr w3) := k3
          obtain ⟨lo3, hlo3⟩ : ∃ l, l = wr.heap.size := ⟨_, rfl⟩
          obtain ⟨hi3, hhi3⟩ : ∃ l, l = w3.heap.size := ⟨_, rfl⟩
          rw [← hlo3, ← hhi3] at HBO
          have HL3 : Hid (lo3 = wr.heap.size ∧ hi3 = w3.heap.size) := ⟨hlo3, hhi3⟩
          clear hbo k3 a0 a1 c0 HSBE hlo3 hhi3
          dsimp only
          repeat (first | go_values | go_skip | go_guarded | go_step | go_upon)
          go_loopw [7, 36] (fun td i wz => ∃ (m : Nat) (r' : List Nat) (far' : Nat → Option Nat) (ao' : Option Addr) (c' : Nat), m ≤ (besM g x g.2.length).length ∧ i = .int .i64 m ∧ td = .slice ao' r'.length c' ∧ Bfs g Y far' r' k ∧ r'[k]? = some x ∧ far' x = some d ∧ (∀ (j z : Nat), j < m → (besM g x g.2.length)[j]? = some (z : Int) → ∃ e, far' z = some e) ∧ ArrO wz SB (tabM 20 far' 20) ∧ wz.ownsRow (SB + 1) 3 1 (.slice ao' r'.length c') r'.length ((rI r').flatMap numC) ∧ NumO wz lo3 hi3 (.slice ba (besM g x g.2.length).length bc) (besM g x g.2.length) ∧ (∀ q, (Value.slice ao' r'.length c').ownBlock = some q → q < lo3 ∨ hi3 ≤ q) ∧ hi3 ≤ wz.heap.size ∧ But SB (SB + 1) W0 wz) (fun td i _ => (besM g x g.2.length).length - (intOf i).toNat)
          case atStart =>
            refine ⟨0, r, far, _, c, by omega, rfl, rfl, HB.out, HX.out.1, HX.out.2, fun j z hj => by omega, HFO.out.kept HK3.out, own_kept HOW.out HK3.out, HBO.out, fun q hq => .inl ?_, by rw [HL3.out.2]; exact Nat.le_refl _, HKP.out.transK HK3.out⟩
            rw [HL3.out.1]
            exact (own_lt HOW.out hq).2
          case round =>
            rename World => W4
            obtain ⟨m, r', far', ao', c', hm', rfl, rfl, hB4, hx4, hd4, hvis, hf4, hw4, hb4, hap, hh3, hk4⟩ := hrel
            have HB4 : Hid (Bfs g Y far' r' k) := hB4
            have HX4 : Hid (r'[k]? = some x ∧ far' x = some d) := ⟨hx4, hd4⟩
            have HVIS : Hid (∀ (j z : Nat), j < m → (besM g x g.2.length)[j]? = some (z : Int) → ∃ e, far' z = some e) := hvis
            have HF4 : Hid (ArrO W4 SB (tabM 20 far' 20)) := hf4
            have HWN : Hid (W4.ownsRow (SB + 1) 3 1 (.slice ao' r'.length c') r'.length ((rI r').flatMap numC)) := hw4
            have HBB : Hid (NumO W4 lo3 hi3 (.slice ba (besM g x g.2.length).length bc) (besM g x g.2.length)) := hb4
            have HAP : Hid (∀ q, (Value.slice ao' r'.length c').ownBlock = some q → q < lo3 ∨ hi3 ≤ q) := hap
            have HK4 : Hid (But SB (SB + 1) W0 W4) := hk4
            have hrl4 := hB4.len
            have hW4S : SB + 1 ≤ W4.heap.size := by have := hk4.size; omega
            by_cases hmt : m < (besM g x g.2.length).length
            · obtain ⟨z, hz⟩ : ∃ z : Int, (besM g x g.2.length)[m]? = some z := ⟨_, List.getElem?_eq_getElem hmt⟩
              obtain ⟨y, hy, hadj⟩ := bes_get hz
              subst hy
              obtain ⟨b6, o6, cap6, e, c6⟩ := num_get hb4.at hz
              cases e
              have hyl := hadj.1
              have d0 := hf4.cell (tabM_get 20 far' (show y < 20 by omega))
              have d1 := hf4.cell (tabM_get 20 far' (show x < 20 by omega))
              have dz0 : W4.frozen? ⟨SB, y, none⟩ = false := Loc.frozen hf4 y
              have HZ : Hid ((besM g x g.2.length)[m]? = some (y : Int) ∧ Adj g x y) := ⟨hz, hadj⟩
              have hd20 : d < 20 := by have := hB4.small hd4; omega
              have y20' : (y : Int) < 20 := by omega
              have x20' : (x : Int) < 20 := by omega
              cases hfy : far' y with
              | none =>
                have HFY : Hid (far' y = none) := hfy
                rw [hfy] at d0
                rw [hd4] at d1
                change W4.cell? ⟨SB, y, none⟩ = some (.int .i64 20) at d0
                change W4.cell? ⟨SB, x, none⟩ = some (.int .i64 (d : Int)) at d1
                clear hB4 hx4 hvis hf4 hw4 hb4 hap hk4 hz hadj hfy hd4
                have HW5a : Hid ((W4.setCell ⟨SB, y, none⟩ (.int .i64 ((d : Int) + 1))).ownsRow (SB + 1) 3 1 (.slice ao' r'.length c') r'.length ((rI r').flatMap numC)) := own_but HWN.out ((But.refl SB (SB + 1) W4).setCell (p := ⟨SB, y, none⟩) (Nat.le_refl _) (Nat.lt_succ_self _) _) (fun q hq => .inr (own_lt HWN.out hq).1)
                have HXC : Hid (∀ (j : Nat) u, [Value.int .i64 (y : Int)][j]? = some u → ((W4.setCell ⟨SB, y, none⟩ (.int .i64 ((d : Int) + 1))).alloc (.cells #[.int .i64 (y : Int)] 3)).cell? ((⟨W4.heap.size, 0, none⟩ : Addr).add j) = some u) := by
                  have h9 := news1 (Loc.new (W4.setCell ⟨SB, y, none⟩ (.int .i64 ((d : Int) + 1))) [.int .i64 (y : Int)] 3)
                  rw [show (W4.setCell ⟨SB, y, none⟩ (.int .i64 ((d : Int) + 1))).heap.size = W4.heap.size by simp [World.setCell]] at h9
                  exact h9
                have HF5 : Hid (ArrO (W4.setCell ⟨SB, y, none⟩ (.int .i64 ((d : Int) + 1))) SB (tabM 20 (upd far' y (d + 1)) 20)) := by
                  have h9 := HF4.out.set y ((d + 1 : Nat) : Int)
                  rw [tabM_set] at h9
                  exact h9
                repeat (first
                  | (at_builtin
                     refine wpList_append_own_at _ rfl _ _ 27 rfl (SB + 1) 3 i0 (.int .i64 0) 1 8 Try.underlying27 hi0 hz0 hz1 hz2 rfl (by decide) _ _ _ rfl (own_kept HW5a.out ((But.refl _ _ _).alloc _)) ⟨W4.heap.size, 0, none⟩ 1 1 [.int .i64 (y : Int)] rfl rfl HXC.out (by simp [Value.oneCell']) (by unfold maxLen; omega) (by omega) (by simp [World.setCell]; omega) ?_
                     intro v' w5 hown' hgrow _ hat
                     obtain ⟨ao5, cap5, hf5, _⟩ := own_form hown'
                     subst hf5
                     have HO5 : Hid (w5.ownsRow (SB + 1) 3 1 (.slice ao5 (r'.length + 1) cap5) (r'.length + 1) ((rI r').flatMap numC ++ [.int .i64 (y : Int)])) := hown'
                     have HG5 : Hid (((W4.setCell ⟨SB, y, none⟩ (.int .i64 ((d : Int) + 1))).alloc (.cells #[.int .i64 (y : Int)] 3)).grownBy w5 (Value.ownBlock (.slice ao' r'.length c'))) := hgrow
                     have HAT : Hid ((Value.slice ao5 (r'.length + 1) cap5).ownBlock = (Value.slice ao' r'.length c').ownBlock ∨ (Value.slice ao5 (r'.length + 1) cap5).ownBlock = some (W4.heap.size + 1)) := hat.imp (fun h => h) (fun h => h.trans (by simp [World.setCell]))
                     clear hgrow hown' hat)
                  | go_values | go_skip | go_guarded | go_step | go_upon)
                have hS3 : SB < lo3 := by rw [HL3.out.1]; omega
                have hkl : k < r'.length := (List.getElem?_eq_some_iff.1 HX4.out.1).1
                have hxy : x ≠ y := fun e => by have h1 := HX4.out.2; rw [e, HFY.out] at h1; cases h1
                have hst : But SB (SB + 1) W4 (W4.setCell ⟨SB, y, none⟩ (.int .i64 ((d : Int) + 1))) := (But.refl SB (SB + 1) W4).setCell (p := ⟨SB, y, none⟩) (Nat.le_refl _) (Nat.lt_succ_self _) _
                have hal : Kept (W4.setCell ⟨SB, y, none⟩ (.int .i64 ((d : Int) + 1))) ((W4.setCell ⟨SB, y, none⟩ (.int .i64 ((d : Int) + 1))).alloc (.cells #[.int .i64 (y : Int)] 3)) := (But.refl _ _ _).alloc _
                have hss : (W4.setCell ⟨SB, y, none⟩ (.int .i64 ((d : Int) + 1))).heap.size = W4.heap.size := by simp [World.setCell]
                have hsz5 : W4.heap.size + 1 ≤ w5.heap.size := by
                  have h1 := HG5.out.size
                  rw [World.size_alloc, hss] at h1
                  exact h1
                have hbb : But (blo (Value.slice ao' r'.length c')) (bhi (Value.slice ao' r'.length c')) ((W4.setCell ⟨SB, y, none⟩ (.int .i64 ((d : Int) + 1))).alloc (.cells #[.int .i64 (y : Int)] 3)) w5 := but_of_grown HG5.out
                have hlow : ∀ q, (Value.slice ao' r'.length c').ownBlock = some q → SB + 1 ≤ q := fun q hq => (own_lt HWN.out hq).1
                refine ⟨⟨m + 1, r' ++ [y], upd far' y (d + 1), ao5, cap5, hmt, by go_num, by simp, HB4.out.add HX4.out.1 HX4.out.2 HZ.out.2 HFY.out, by rw [List.getElem?_append_left hkl]; exact HX4.out.1, by rw [upd_other hxy]; exact HX4.out.2, fun j z hj hz => ?_, ?_, by simpa [rI, List.flatMap_append, numC] using HO5.out, ?_, ?_, by omega, ?_⟩, by simp [intOf]; omega⟩
                · by_cases hzy : z = y
                  · exact ⟨d + 1, by rw [hzy, upd_same]⟩
                  · rw [upd_other hzy]
                    rcases Nat.lt_succ_iff_lt_or_eq.1 hj with hj | rfl
                    · exact HVIS.out j z hj hz
                    · rw [HZ.out.1] at hz
                      injection hz with hz
                      exact absurd (by omega) hzy
                · refine Loc.grown (HF5.out.kept hal) HG5.out (fun h => ?_)
                  have := hlow SB h
                  omega
                · refine RowO.grown (NumO.kept (HBB.out.but hst (by omega)) hal) HG5.out (fun q hq hq' => ?_)
                  have h1 := own_lt HBB.out.1 hq
                  have h2 := HBB.out.2 q hq
                  have h3 := HAP.out q hq'
                  omega
                · intro q hq
                  rcases HAT.out with h1 | h1
                  · have hq2 : (Value.slice ao' r'.length c').ownBlock = some q := by rw [← h1]; simpa [Value.ownBlock] using hq
                    exact HAP.out q hq2
                  · have hq2 : (Value.slice ao5 (r'.length + 1) cap5).ownBlock = some q := by simpa [Value.ownBlock] using hq
                    rw [h1] at hq2
                    injection hq2 with hq2
                    exact .inr (by omega)
                · refine ((HK4.out.trans hst).transK hal).grown HG5.out (fun q hq => .inl ?_)
                  have := hlow q hq
                  omega
              | some e =>
                have HFY : Hid (far' y = some e) := hfy
                have he20 : e < 20 := by have := hB4.small hfy; omega
                rw [hfy] at d0
                change W4.cell? ⟨SB, y, none⟩ = some (.int .i64 (e : Int)) at d0
                have de : ((e : Int) == 20) = false := beq_eq_false_iff_ne.2 (by omega)
                have de2 : decide ((e : Int) = 20) = false := decide_eq_false (by omega)
                clear hB4 hx4 hvis hf4 hw4 hb4 hap hk4 hz hadj hfy hd4 d1
                repeat (first | go_values | go_skip | go_guarded | go_step | go_upon)
                refine ⟨⟨m + 1, r', far', ao', c', hmt, by go_num, rfl, HB4.out, HX4.out.1, HX4.out.2, fun j z hj hz => ?_, HF4.out, HWN.out, HBB.out, HAP.out, hh3, HK4.out⟩, by simp [intOf]; omega⟩
                rcases Nat.lt_succ_iff_lt_or_eq.1 hj with hj | rfl
                · exact HVIS.out j z hj hz
                · rw [HZ.out.1] at hz
                  injection hz with hz
                  have : y = z := by omega
                  subst this
                  exact ⟨e, HFY.out⟩
            · have hme : m = (besM g x g.2.length).length := by omega
              clear hB4 hx4 hvis hf4 hw4 hb4 hap hk4
              repeat (first | go_values | go_skip | go_guarded | go_step | go_upon)
              have hkl : k < r'.length := (List.getElem?_eq_some_iff.1 HX4.out.1).1
              refine ⟨⟨r', k + 1, far', ao', c', hkl, by go_num, rfl, HB4.out.next HX4.out.1 HX4.out.2 (fun y hy => ?_), HF4.out, HWN.out, HK4.out⟩, by simp [intOf]; omega⟩
              obtain ⟨i, hi⟩ := bes_has hy
              exact HVIS.out i y (by rw [hme]; exact (List.getElem?_eq_some_iff.1 hi).1) hi
        · have hke : k = r.length := by omega
          have LrR := Lr0.but hkp (by have := HSB.out; omega)
          obtain ⟨CS, hCS⟩ : ∃ CS, CS = (tabM 20 far 20).map (Value.int .i64) := ⟨_, rfl⟩
          have hcl : CS.length = 20 := by rw [hCS, List.length_map, tabM_len]
          have HCS : Hid (CS = (tabM 20 far 20).map (Value.int .i64)) := hCS
          have HRNG : Hid (wr.rangeAt SB 0 CS) := fun j v hv => by
            rw [hCS] at hv
            rw [Nat.zero_add]
            exact Loc.cell hfO j hv
          have HTH : Hid (wr.there (w.heap.size + 1) 0 CS.length) := fun j hj => by
            rw [hcl] at hj
            rw [Nat.zero_add]
            exact ⟨by rw [LrR.cell j (v := .int .i64 0) (by rw [List.getElem?_replicate, if_pos hj])]; rfl, LrR.frozen j⟩
          have HONE : Hid (∀ v ∈ CS, v.oneCell' = true) := fun v hv => by
            rw [hCS] at hv
            obtain ⟨z, _, rfl⟩ := List.mem_map.1 hv
            rfl
          have HINF : Hid ((Try.prog.info? 93).map (·.size) = some CS.length) := by
            have h9 : (Try.prog.info? 93).map (·.size) = some 20 := by kernel_rfl
            rw [← hcl] at h9
            exact h9
          have HFINR : Hid (Fin8 g Y far ∧ ∀ x d, far x = some d → d < 20 ∧ x < g.2.length) := ⟨hB.done' (by omega), fun x d hx => by have := hB.small hx; omega⟩
          have HRET : Hid (∀ W : World, W.rangeAt (w.heap.size + 1) 0 CS → (loadVar 93 ⟨w.heap.size + 1, 0, none⟩).run Try.prog W = .ok (.agg CS.toArray) W) := fun W hW => run_loadVar_mid W _ 0 93 CS _ hW Try.underlying93 rfl HINF.out
          have HRB : Hid ((wr.setCells (w.heap.size + 1) 0 CS).rangeAt (w.heap.size + 1) 0 CS) := World.rangeAt_setCells_same wr _ 0 CS HTH.out
          clear hB hfO hown hkp hCS hcl LrR
          repeat (first
            | (refine wpList_load_mid rfl 93 _ rfl SB 0 rfl CS _ HRNG.out Try.underlying93 rfl HINF.out ?_)
            | (refine wpList_store_mid rfl 93 _ _ rfl (w.heap.size + 1) 0 CS.toArray rfl rfl HTH.out (by simpa using HINF.out) (all_oneCell_toArray HONE.out) ?_)
            | go_values | go_skip | go_guarded | go_step | go_upon)
          refine bodyPost_ret (v := .agg CS.toArray) (by simp [results, Try.results66, asAddr, Act.put, HRET.out _ HRB.out]) rfl ?_
          refine ⟨⟨far, HFINR.out.1, HFINR.out.2, by rw [HCS.out]⟩, ?_⟩
          refine K0.onto (lo := w.heap.size) (hi := SB + 1) ?_ (Nat.le_refl _)
          have h9 := HSB.out
          exact But.setCells CS 0 (HKP.out.mono (by omega) (Nat.le_refl _)) (by omega) (by omega)

end Go.Proofs.Ythohgehhoogpnaa

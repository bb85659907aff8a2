/-
  A list taken step by step (throughAll), and what PlanCost answers in the program.
-/
import Derived.Test.YtjpceimaggcncaaClo
namespace Go.Proofs.Ytjpceimaggcncaa
open Go.ChangeShapes Go.WideShapes Go.ChangeAt Go.RowKit
set_option maxRecDepth 100000
set_option linter.unusedVariables false

theorem ofInt_toNat {x : Int} (h0 : 0 ≤ x) (h1 : x ≤ 255) : (BitVec.ofInt 64 x).toNat = x.toNat := by
  rw [BitVec.toNat_ofInt]
  have : ((2 ^ 64 : Nat) : Int) = 18446744073709551616 := rfl
  rw [this]
  omega
theorem next_fact {g : Int} {p : ActionD} (hg : factB g = true) (ha : actB p = true) : factB (nextI g p) = true := by
  have hp : factB p.2.2.2.2.1 = true := by simp [actB] at ha; exact ha.2.2.2.2.1
  obtain ⟨g0, g1⟩ : 0 ≤ g ∧ g ≤ 255 := by simpa [factB] using hg
  obtain ⟨p0, p1⟩ : 0 ≤ p.2.2.2.2.1 ∧ p.2.2.2.2.1 ≤ 255 := by simpa [factB] using hp
  have e1 : bits .andNot .i64 g p.2.2.2.2.2 = (((BitVec.ofInt 64 g &&& ~~~ BitVec.ofInt 64 p.2.2.2.2.2).toNat : Nat) : Int) := by
    show IntKind.i64.wrap (((BitVec.ofInt 64 g &&& ~~~ BitVec.ofInt 64 p.2.2.2.2.2).toNat : Nat) : Int) = _
    have hle : (BitVec.ofInt 64 g &&& ~~~ BitVec.ofInt 64 p.2.2.2.2.2).toNat ≤ 255 := by
      rw [BitVec.toNat_and]
      exact Nat.le_trans Nat.and_le_left (by rw [ofInt_toNat g0 g1]; omega)
    exact IntWalk.i64_in _ (by omega)
  have hle : (BitVec.ofInt 64 g &&& ~~~ BitVec.ofInt 64 p.2.2.2.2.2).toNat ≤ 255 := by
    rw [BitVec.toNat_and]
    exact Nat.le_trans Nat.and_le_left (by rw [ofInt_toNat g0 g1]; omega)
  have e2 : nextI g p = (((BitVec.ofInt 64 g &&& ~~~ BitVec.ofInt 64 p.2.2.2.2.2).toNat ||| p.2.2.2.2.1.toNat : Nat) : Int) := by
    unfold nextI
    rw [e1]
    generalize (BitVec.ofInt 64 g &&& ~~~ BitVec.ofInt 64 p.2.2.2.2.2).toNat = m at hle
    show IntKind.i64.wrap (((BitVec.ofInt 64 (m : Int) ||| BitVec.ofInt 64 p.2.2.2.2.1).toNat : Nat) : Int) = _
    rw [BitVec.toNat_or, ofInt_toNat (by omega) (by omega), ofInt_toNat p0 p1]
    have := Nat.or_lt_two_pow (n := 8) (show m < 2 ^ 8 by omega) (show p.2.2.2.2.1.toNat < 2 ^ 8 by omega)
    rw [Int.toNat_natCast]
    exact IntWalk.i64_in _ (by omega)
  have := Nat.or_lt_two_pow (n := 8) (show (BitVec.ofInt 64 g &&& ~~~ BitVec.ofInt 64 p.2.2.2.2.2).toNat < 2 ^ 8 by omega) (show p.2.2.2.2.1.toNat < 2 ^ 8 by omega)
  rw [e2]
  simp only [factB, decide_eq_true_eq]
  omega
theorem act_of {ps : List ActionD} (h : actsB ps = true) {i : Nat} {p : ActionD} (hp : ps[i]? = some p) : actB p = true := by
  simp only [actsB, Bool.and_eq_true, List.all_eq_true] at h
  exact h.2 p (List.mem_of_getElem? hp)

theorem clo_no (ps : List ActionD) (c g : Int) (j : Nat) (p : ActionD) (B : Nat) (v' : Value) (w : World) (hB : w.cell? ⟨B, 0, none⟩ = some v') (hv' : ActionAt w v' ps) (hn : ps.length ≤ 1048576) (hp : ps[j]? = some p) (hs : p.1.size ≤ 1048576) (hf : factB g = true) (ha : actB p = true) (hc0 : 0 ≤ c) (hc1 : c ≤ 1000000) (hcb : 1 ≤ p.2.1 ∧ p.2.1 ≤ 1000) (h : mayB g p = false) :
    Calls Try.prog 58 #[.agg #[.int .i64 c, .int .i64 g], .int .i64 (j : Int), .pointer (some ⟨B, 0, none⟩)] w fun e w' => e = .returned (.tuple #[.agg #[.int .i64 0, .int .i64 0], .bool false]) ∧ Kept w w' := by
  have := clo_in ps c g j p B v' w hB hv' hn hp hs hf ha hc0 hc1 hcb
  rw [h] at this
  exact this
theorem clo_yes (ps : List ActionD) (c g : Int) (j : Nat) (p : ActionD) (B : Nat) (v' : Value) (w : World) (hB : w.cell? ⟨B, 0, none⟩ = some v') (hv' : ActionAt w v' ps) (hn : ps.length ≤ 1048576) (hp : ps[j]? = some p) (hs : p.1.size ≤ 1048576) (hf : factB g = true) (ha : actB p = true) (hc0 : 0 ≤ c) (hc1 : c ≤ 1000000) (hcb : 1 ≤ p.2.1 ∧ p.2.1 ≤ 1000) (h : mayB g p = true) :
    Calls Try.prog 58 #[.agg #[.int .i64 c, .int .i64 g], .int .i64 (j : Int), .pointer (some ⟨B, 0, none⟩)] w fun e w' => e = .returned (.tuple #[.agg #[.int .i64 (c + p.2.1), .int .i64 (nextI g p)], .bool true]) ∧ Kept w w' := by
  have := clo_in ps c g j p B v' w hB hv' hn hp hs hf ha hc0 hc1 hcb
  rw [h] at this
  exact this

def thrV (ps : List ActionD) (f : Int) (ns : List Int) : Value := match runP ps (0, f) ns with | none => .tuple #[.agg #[.int .i64 0, .int .i64 0], .bool false] | some s => .tuple #[.agg #[.int .i64 s.1, .int .i64 s.2], .bool true]
theorem thrV_stop {ps : List ActionD} {f : Int} {ns : List Int} {k : Nat} (h : runP ps (0, f) (ns.take k) = none) : thrV ps f ns = .tuple #[.agg #[.int .i64 0, .int .i64 0], .bool false] := by
  have := runP_app_none ps (0, f) (ns.take k) (ns.drop k) h
  rw [List.take_append_drop] at this
  simp [thrV, this]

set_option maxHeartbeats 4000000 in
theorem through (f : Int) (ns : List Int) (ps : List ActionD) (B : Nat) (v v' : Value) (w : World) (hv : NumAt w v ns) (hB : w.cell? ⟨B, 0, none⟩ = some v') (hv' : ActionAt w v' ps) (hq : ∀ p ∈ ps, p.1.size ≤ 1048576) (hn : ps.length ≤ 1048576) (hl : ns.length ≤ 20) (hf : factB f = true) (ha : actsB ps = true) :
    Calls Try.prog 57 #[v, .agg #[.int .i64 0, .int .i64 f], .func (.func 58) #[] #[.pointer (some ⟨B, 0, none⟩)]] w fun e w' => e = .returned (thrV ps f ns) ∧ Kept w w' := by
  obtain ⟨ao, cap, hsl⟩ := row_nil hv
  subst hsl
  have HF : Hid (factB f = true) := hf
  clear hf
  go_enter Try.func57, Try.ntmps57
  go_wp2
  go_loopw [15] (fun i wr => ∃ (k : Nat) (c g : Int), k ≤ ns.length ∧ i = .int .i64 k ∧ runP ps (0, f) (ns.take k) = some (c, g) ∧ factB g = true ∧ 0 ≤ c ∧ c ≤ 1000 * k ∧ Kept w wr ∧ wr.cell? ⟨w.heap.size, 0, none⟩ = some (.int .i64 c) ∧ wr.cell? ⟨w.heap.size, 1, none⟩ = some (.int .i64 g) ∧ wr.frozen? ⟨w.heap.size, 0, none⟩ = false ∧ wr.frozen? ⟨w.heap.size, 1, none⟩ = false ∧ wr.cell? ⟨w.heap.size + 1, 0, none⟩ = some (.int .i64 0) ∧ wr.cell? ⟨w.heap.size + 1, 1, none⟩ = some (.int .i64 0) ∧ wr.frozen? ⟨w.heap.size + 1, 0, none⟩ = false ∧ wr.frozen? ⟨w.heap.size + 1, 1, none⟩ = false ∧ w.heap.size + 1 < wr.heap.size) (fun i _ => ns.length - (intOf i).toNat)
  case atStart => exact ⟨0, 0, f, by omega, rfl, by simp [runP], HF.out, by omega, by omega, ((But.refl _ _ _).alloc _).alloc _, by simp [go_sem]⟩
  case round =>
    obtain ⟨k, c, g, hk, rfl, hr, hg, hc0, hc1, hkp, a0, a1, z0, z1, r0, r1, y0, y1, hsz⟩ := hrel
    have hsz0 : w.heap.size < wr.heap.size := by omega
    have HR : Hid _ := hr
    have HG : Hid (factB g = true) := hg
    clear hr hg HF
    by_cases hlt : k < ns.length
    · obtain ⟨i, hi⟩ : ∃ i, ns[k]? = some i := ⟨_, List.getElem?_eq_getElem hlt⟩
      obtain ⟨b, o, cap1, e, e0⟩ := num_get (hv.kept hkp) hi
      cases e
      have HN : Hid (runP ps (0, f) (ns.take (k + 1)) = stepP ps (c, g) i) := by rw [take_snoc hi, runP_snoc, HR.out]; rfl
      have HK : Hid (Kept w wr) := hkp
      have HB : Hid _ := Kept.cell hkp hB
      have HV : Hid _ := hv'.kept hkp
      clear hkp
      by_cases hin : 0 ≤ i ∧ i ≤ (ps.length : Int) - 1
      · obtain ⟨j, rfl⟩ : ∃ j : Nat, i = j := ⟨i.toNat, by omega⟩
        have hj : j < ps.length := by omega
        obtain ⟨p, hp⟩ : ∃ p, ps[j]? = some p := ⟨_, List.getElem?_eq_getElem hj⟩
        have hcb := cost_bd ha hp
        have HC : Hid _ := clo_no ps c g j p B v' wr HB.out HV.out hn hp (hq p (List.mem_of_getElem? hp)) HG.out (act_of ha hp) hc0 (by omega) hcb
        have HD : Hid _ := clo_yes ps c g j p B v' wr HB.out HV.out hn hp (hq p (List.mem_of_getElem? hp)) HG.out (act_of ha hp) hc0 (by omega) hcb
        have HX : Hid (actB p = true) := act_of ha hp
        have HY : Hid _ := @stepP_yes ps c g j p hp
        have HO : Hid _ := @stepP_no ps c g j p hp
        clear hin hp hi
        cases hmay : mayB g p
        · have HE : Hid (thrV ps f ns = _) := thrV_stop (HN.out.trans (HO.out hmay))
          go_wp2_with (go_at_call 58; refine (HC.out hmay).mono ?_; rintro e w5 ⟨rfl, k5⟩; have hc5 := Kept.cell_eq k5; have hf5 := Kept.frozen_eq k5; have hz5 := k5.size; have x1 : w.heap.size < w5.heap.size := (by omega); have x2 : w.heap.size + 1 < w5.heap.size := (by omega); have K5 : Kept w w5 := HK.out.trans k5)
          refine bodyPost_ret (v := .tuple #[.agg #[.int .i64 0, .int .i64 0], .bool false]) (by simp [results, Try.results57, go_sem, *]) rfl ?_
          refine ⟨by rw [HE.out], ?_⟩
          repeat (first | with_reducible exact K5 | with_reducible apply But.alloc | (with_reducible refine But.setNew ?_ (by simp; try omega) _))
        · go_wp2_with (go_at_call 58; refine (HD.out hmay).mono ?_; rintro e w5 ⟨rfl, k5⟩; have hc5 := Kept.cell_eq k5; have hf5 := Kept.frozen_eq k5; have hz5 := k5.size; have x1 : w.heap.size < w5.heap.size := (by omega); have x2 : w.heap.size + 1 < w5.heap.size := (by omega); have K5 : Kept w w5 := HK.out.trans k5)
          refine ⟨⟨k + 1, c + p.2.1, nextI g p, hlt, by go_num, HN.out.trans (HY.out hmay), next_fact HG.out HX.out, by omega, by omega, ?_, ?_⟩, by simp [intOf]; omega⟩
          · repeat (first | with_reducible exact K5 | with_reducible apply But.alloc | (with_reducible refine But.setNew ?_ (by simp; try omega) _))
          · simp [go_sem, *]
      · have HE : Hid (thrV ps f ns = _) := thrV_stop (HN.out.trans (stepP_out hin))
        have HC : Hid _ := clo_out ps c g i B v' wr HB.out HV.out hn hin
        have HIN : Hid (¬ (0 ≤ i ∧ i ≤ (ps.length : Int) - 1)) := hin
        clear hin hi HC
        go_wp2_with (go_at_call 58; refine (clo_out ps c g i B v' wr HB.out HV.out hn HIN.out).mono ?_; rintro e w5 ⟨rfl, k5⟩; have hc5 := Kept.cell_eq k5; have hf5 := Kept.frozen_eq k5; have hz5 := k5.size; have x1 : w.heap.size < w5.heap.size := (by omega); have x2 : w.heap.size + 1 < w5.heap.size := (by omega); have K5 : Kept w w5 := HK.out.trans k5)
        refine bodyPost_ret (v := .tuple #[.agg #[.int .i64 0, .int .i64 0], .bool false]) (by simp [results, Try.results57, go_sem, *]) rfl ?_
        refine ⟨by rw [HE.out], ?_⟩
        repeat (first | with_reducible exact K5 | with_reducible apply But.alloc | (with_reducible refine But.setNew ?_ (by simp; try omega) _))
    · have hke : k = ns.length := by omega
      subst hke
      have hr := HR.out
      rw [List.take_length] at hr
      have HE : Hid (thrV ps f ns = .tuple #[.agg #[.int .i64 c, .int .i64 g], .bool true]) := by
        show thrV ps f ns = _
        simp [thrV, hr]
      clear hr HR
      go_wp2
      refine bodyPost_ret (v := .tuple #[.agg #[.int .i64 c, .int .i64 g], .bool true]) (by simp [results, Try.results57, go_sem, *]) rfl ?_
      refine ⟨by rw [HE.out], ?_⟩
      repeat (first | with_reducible exact hkp | with_reducible apply But.alloc | (with_reducible refine But.setNew ?_ (by simp; try omega) _))
end Go.Proofs.Ytjpceimaggcncaa

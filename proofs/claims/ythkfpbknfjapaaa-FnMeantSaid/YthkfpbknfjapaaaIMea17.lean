/-
  MeantBy in the program.
-/
import Derived.Test.YthkfpbknfjapaaaMean17
import Derived.Test.YthkfpbknfjapaaaTake17
import Derived.Test.YthkfpbknfjapaaaFlag17
import Derived.Test.YthkfpbknfjapaaaGBI17
import Derived.Test.YthkfpbknfjapaaaPrsI17
import Derived.Conc.SmallLaws
import Derived.Deep.Cut
namespace Go.Proofs.Ythkfpbknfjapaaa
open Go.ChangeShapes Go.WideShapes Go.ChangeAt Go.RowKit

set_option maxRecDepth 100000
set_option linter.unusedVariables false

open Go.Conc
/-- The flags, the first j of them anew. -/
def mixF (l : List BindD) (H H' : List Int) (j : Nat) : List Bool := (l.map (onB l H')).take j ++ (l.map (onB l H)).drop j
theorem mixF_len {l : List BindD} (H H' : List Int) {j : Nat} (hj : j ≤ l.length) : (mixF l H H' j).length = l.length := by unfold mixF; simp; omega
theorem mixF_0 (l : List BindD) (H H' : List Int) : mixF l H H' 0 = l.map (onB l H) := by unfold mixF; simp
theorem mixF_all (l : List BindD) (H H' : List Int) : mixF l H H' l.length = l.map (onB l H') := by
  unfold mixF
  rw [List.take_of_length_le (by simp), List.drop_eq_nil_of_le (by simp), List.append_nil]
theorem mixF_at {l : List BindD} {H H' : List Int} {j : Nat} {d : BindD} (hd : l[j]? = some d) : (mixF l H H' j)[j]? = some (onB l H d) := by
  have hk := (List.getElem?_eq_some_iff.1 hd).1
  unfold mixF
  rw [List.getElem?_append_right (by simp; omega), List.length_take, List.length_map, Nat.min_eq_left (by omega), Nat.sub_self, List.getElem?_drop]
  simp [hd]
theorem mixF_next {l : List BindD} {H H' : List Int} {j : Nat} {d : BindD} (hd : l[j]? = some d) : mixF l H H' (j + 1) = (mixF l H H' j).set j (onB l H' d) := by
  have hk := (List.getElem?_eq_some_iff.1 hd).1
  have h1 : (l.map (onB l H'))[j]? = some (onB l H' d) := by simp [hd]
  have h2 : (l.map (onB l H)).drop j = onB l H d :: (l.map (onB l H)).drop (j + 1) := by
    have := List.drop_eq_getElem_cons (l := l.map (onB l H)) (i := j) (by simpa using hk)
    rw [this]
    congr 1
    rw [List.getElem_map]
    congr 1
    exact (List.getElem?_eq_some_iff.1 hd).2
  unfold mixF
  rw [take_snoc h1, h2, List.set_append_right _ _ (by simp; omega), List.length_take, List.length_map, Nat.min_eq_left (by omega), Nat.sub_self, List.set_cons_zero]
  simp
theorem mixF_same {l : List BindD} {H H' : List Int} {j : Nat} {d : BindD} (hd : l[j]? = some d) : (mixF l H H' j).set j (onB l H d) = mixF l H H' j := by
  have h := mixF_at (H := H) (H' := H') hd
  obtain ⟨h1, h2⟩ := List.getElem?_eq_some_iff.1 h
  rw [← h2, List.set_getElem_self]
theorem OpsAt.last8 {P : Program} {Q : Exit → Act → World → Prop} {id : Nat} {a : Act} {w : World} {o0 o1 o2 o3 o4 o5 o6 o7 : Oper} (h : wpList P #[o0, o1, o2, o3, o4, o5, o6, o7] (fun e a' w' => e = .normal ∧ OpsAt P #[o0, o1, o2, o3, o4, o5, o6, o7] Q [7] a' w') [o0, o1, o2, o3, o4, o5, o6] a w) : (Code.region id #[o0, o1, o2, o3, o4, o5, o6, o7] false).wp P Q a w := OpsAt.last (n := 7) (pre := [o0, o1, o2, o3, o4, o5, o6]) rfl rfl rfl h
theorem OpsAt.sendM {P : Program} {ops : Array Oper} {Q : Exit → Act → World → Prop} {i : Nat} {rest : List Nat} {o : Oper} {x y : Operand} {a : Act} {w : World} {c cap s r : Nat} {ms : List MeantD} {tm : Bool} (d : MeantD) (ho : ops[i]? = some o) (hop : o.op = .send x y) (hg : o.guard = Option.none) (hx : a.eval x = .chan (some c)) (hy : a.eval y = meantV d) (hc : w.heap[c]? = some (.chan cap (ms.map meantV).toArray false s r tm)) (hroom : ms.length < cap)
    (h : ∀ w', ChanM w' c cap (ms ++ [d]) → But c (c + 1) w w' → w'.heap.size = w.heap.size → OpsAt P ops Q rest (a.put o.dst undef) w') : OpsAt P ops Q (i :: rest) a w := by
  refine OpsAt.send ho hop hg hx hc (by simpa using hroom) (h _ ?_ But.chan (size_setChan _ _ _ _ _ _ _ _))
  have e : (ms.map meantV).toArray.push (a.eval y) = ((ms ++ [d]).map meantV).toArray := by rw [hy]; simp
  rw [e]
  exact ChanM.set _ (ChanM.lt ⟨s, r, tm, hc⟩)
theorem flags0 {l : List BindD} (hb : BindsP l) : List.replicate l.length false = l.map (onB l []) := by
  apply List.ext_getElem?
  intro i
  rw [List.getElem?_replicate, List.getElem?_map]
  by_cases h : i < l.length
  · obtain ⟨d, hd⟩ : ∃ p, l[i]? = some p := ⟨_, List.getElem?_eq_getElem h⟩
    rw [if_pos h, hd, Option.map_some, onB_nil hb hd]
  · rw [if_neg h, List.getElem?_eq_none (by omega)]
    rfl
set_option maxHeartbeats 16000000 in
theorem imeant (l : List BindD) (es : List PressD) (ao : Option Addr) (cap : Nat) (v2 : Value) (w : World) (hv : BindsAt w (.slice ao l.length cap) l) (hcap : l.length ≤ cap ∧ cap ≤ 9223372036854775807) (hv2 : PressAt w v2 es) (hn : bindsCost l ≤ 1048576) (hn2 : es.length ≤ 1048576) :
    Calls Try.prog 11 #[.slice ao l.length cap, v2] w fun e w' => ∃ v', e = .returned (.tuple #[v', .bool (meaA l es).2]) ∧ MeantO w' w.heap.size w'.heap.size v' (meaA l es).1 ∧ Kept w w' := by
  obtain ⟨a2, p2, hsl⟩ := row_nil hv2
  subst hsl
  rcases (Classical.em (BindsP l)).symm with h1 | h1
  · have dm : dec (BindsP l) = false := dec_no h1
    rw [meaA_no (fun h => h1 h.1)]
    go_enter Try.func11, Try.ntmps11
    repeat (first | (go_at_call 16; refine (igbinds l ao cap _ hv hcap hn).mono ?_; rintro e w1 ⟨rfl, k1⟩; rw [dm]; dsimp only) | go_values | go_skip | go_guarded | go_step | go_upon)
    go_ret2
    exact ⟨_, rfl, nil_meant _ _ _, k1⟩
  have dm : dec (BindsP l) = true := dec_yes h1
  rcases (Classical.em (PrssP es)).symm with h2 | h2
  · have dp : dec (PrssP es) = false := dec_no h2
    rw [meaA_no (fun h => h2 h.2)]
    go_enter Try.func11, Try.ntmps11
    repeat (first | (go_at_call 16; refine (igbinds l ao cap _ hv hcap hn).mono ?_; rintro e w1 ⟨rfl, k1⟩; rw [dm]; dsimp only) | (go_at_call 47; refine (iprss es _ _ (hv2.kept k1) hn2).mono ?_; rintro e w2 ⟨rfl, k2⟩; rw [dp]; dsimp only) | go_values | go_skip | go_guarded | go_step | go_upon)
    go_ret2
    exact ⟨_, rfl, nil_meant _ _ _, k1.trans k2⟩
  have dp : dec (PrssP es) = true := dec_yes h2
  rw [meaA_yes ⟨h1, h2⟩]
  dsimp only
  have hl20 := h1.1
  have he200 := h2.1
  have HB1 : Hid (BindsP l) := h1
  have HP1 : Hid (PrssP es) := h2
  obtain ⟨i0, hi, hz0, hz1, hz2⟩ := info_parts info_flag
  have hmk : ∀ W : World, (Instr.makeSlice 79 (.int .i64 (l.length : Int)) (.int .i64 (l.length : Int))).run Try.prog W = .ok (.slice (some ⟨W.heap.size, 0, none⟩) l.length l.length) (W.alloc (.cells (madeCells #[.bool false] (l.length * 1)) 4)) := fun W => by
    have := run_make (P := Try.prog) W 79 4 i0 _ Try.underlying79 hi hz0 .i64 .i64 (l.length : Int) (l.length : Int) (by omega) (by omega) (by rw [hz2]; omega) (by omega)
    rw [this, hz1]
    simp [Value.cells]
  have hm := fun (W : World) => row_made W W.heap.size 4 #[.bool false] 1 (by omega) flagC flag0 flagC_len rfl l.length (Nat.le_refl _) (by unfold maxLen; omega)
  have HM : Hid (∀ W : World, FlagO (W.alloc (.cells (madeCells #[.bool false] (l.length * 1)) 4)) W.heap.size (W.heap.size + 1) (.slice (some ⟨W.heap.size, 0, none⟩) l.length l.length) (l.map (onB l []))) := fun W => by
    have h := hm W
    rw [← flags0 HB1.out]
    unfold FlagO
    rw [List.length_replicate]
    exact h
  have hmc : ∀ W : World, (Instr.makeChan 80 (.int .i64 (l.length : Int))).run Try.prog W = .ok (.chan (some W.heap.size)) (W.alloc (.chan l.length #[] false 0 0 false)) := fun W => by
    obtain ⟨i1, hj, _, _, hj2⟩ := info_parts info_meantA
    have := run_makeChan (P := Try.prog) (w := W) Try.underlying80 hj .i64 l.length (by omega) (by rw [hj2]; omega)
    exact this
  simp only [Nat.mul_one] at hmk HM
  have hmm := @run_makeMap Try.prog
  clear hi hz0 hz1 hz2 hm i0
  go_enter Try.func11, Try.ntmps11
  repeat (first | (go_at_call 16; refine (igbinds l ao cap _ hv hcap hn).mono ?_; rintro e w1 ⟨rfl, k1⟩; rw [dm]; dsimp only) | (go_at_call 47; refine (iprss es _ _ (hv2.kept k1) hn2).mono ?_; rintro e w2 ⟨rfl, k2⟩; rw [dp]; dsimp only) | go_values | go_skip | go_guarded | go_step | go_upon)
  clear dm dp h1 h2 hmm hmk hmc
  have K2 : Kept w w2 := k1.trans k2
  have s2 := K2.size
  have MK0 := KeysM.made w2
  have FL0 := HM.out (w2.alloc (.map #[] 0))
  simp only [World.size_alloc] at FL0
  have W5 : ∃ w5, w5 = ((w2.alloc (.map #[] 0)).alloc (.cells (madeCells #[.bool false] l.length) 4)).alloc (.chan l.length #[] false 0 0 false) := ⟨_, rfl⟩
  obtain ⟨w5, hw5⟩ := W5
  obtain ⟨B, hB⟩ : ∃ B, w2.heap.size = B := ⟨_, rfl⟩
  have MK5 : KeysM w5 B 0 [] := by rw [hw5, ← hB]; exact MK0.kept (((But.refl _ _ _).alloc _).alloc _)
  have FL5 : FlagO w5 (B + 1) (B + 1 + 1) (.slice (some ⟨B + 1, 0, none⟩) l.length l.length) (l.map (onB l [])) := by rw [hw5, ← hB]; exact FL0.kept ((But.refl _ _ _).alloc _)
  have CH5 : ChanM w5 (B + 2) l.length [] := ⟨0, 0, false, by
    rw [hw5, ← hB]
    have := heap_alloc_new ((w2.alloc (.map #[] 0)).alloc (.cells (madeCells #[.bool false] l.length) 4)) (.chan l.length #[] false 0 0 false)
    simp only [World.size_alloc] at this
    exact this⟩
  have s5 : w5.heap.size = B + 3 := by rw [hw5, ← hB]; simp
  have K5 : Kept w w5 := by rw [hw5]; exact ((K2.alloc _).alloc _).alloc _
  rw [← hw5]
  simp only [hB]
  clear MK0 FL0 hw5
  obtain ⟨F, hF⟩ : ∃ F, B + 1 = F := ⟨_, rfl⟩
  obtain ⟨C, hC⟩ : ∃ C, B + 2 = C := ⟨_, rfl⟩
  have hC' : B + 1 + 1 = C := by omega
  have FL6 : FlagO w5 F (F + 1) (.slice (some ⟨F, 0, none⟩) l.length l.length) (l.map (onB l [])) := by rw [← hF]; exact FL5
  rw [hC] at CH5
  simp only [hC'] at FL5 ⊢
  simp only [hF] at FL5 ⊢
  clear FL5 K2 k1 k2 HM
  have hwB : w.heap.size ≤ B := by omega
  have hs5 : C + 1 ≤ w5.heap.size := by omega
  have HNB : Hid (F = B + 1 ∧ C = B + 2 ∧ w.heap.size ≤ B) := ⟨hF.symm, hC.symm, hwB⟩
  clear s2 hB hC' hF hC hwB s5
  go_loopw [6, 32] (fun lv i wr => ∃ (k : Nat), k ≤ es.length ∧ i = .int .i64 k ∧ KeysM wr B k (prK es k) ∧ FlagO wr F (F + 1) (.slice (some ⟨F, 0, none⟩) l.length l.length) (l.map (onB l (prK es k))) ∧ ChanM wr C l.length [] ∧ MeantO wr (C + 1) wr.heap.size lv (meaK l es k) ∧ Kept w wr ∧ C + 1 ≤ wr.heap.size) (fun lv i _ => es.length - (intOf i).toNat)
  case atStart => exact ⟨0, by omega, rfl, MK5, FL6, CH5, nil_meant _ _ _, K5, hs5⟩
  case round =>
    obtain ⟨k, hk, rfl, km, fo, hch, ov, hkp, hsr⟩ := hrel
    obtain ⟨al, pl, hf⟩ := ov.form
    subst hf
    have hml := meaK_len hl20 es k
    clear MK5 FL6 CH5 K5 hs5
    by_cases hlt : k < es.length
    · obtain ⟨d, hd⟩ : ∃ p, es[k]? = some p := ⟨_, List.getElem?_eq_getElem hlt⟩
      obtain ⟨b, o, cap', ee, c0, c1, c2⟩ := press_get (hv2.kept hkp) hd
      cases ee
      have hky := prs_key HP1.out hd
      have HPN : Hid (prK es (k + 1) = pressL (prK es k) d) := prK_next hd
      have HMN1 : Hid (meaK l es (k + 1) = meaK l es k ++ evK l d.1 (prK es k) (prK es (k + 1)) l.length) := meaK_next hd
      obtain ⟨t0, ky, dn⟩ := d
      dsimp only at c0 c1 c2 HPN HMN1 hky
      obtain ⟨H, hH⟩ : ∃ H, prK es k = H := ⟨_, rfl⟩
      rw [hH] at km fo HPN HMN1
      obtain ⟨H', hH'⟩ : ∃ H, prK es (k + 1) = H := ⟨_, rfl⟩
      rw [hH'] at HPN HMN1
      obtain ⟨ML, hML⟩ : ∃ M, meaK l es k = M := ⟨_, rfl⟩
      rw [hML] at ov HMN1 hml
      have HH' : Hid (prK es (k + 1) = H') := hH'
      have HC : Hid (Calls Try.prog 48 #[.map (some B), .agg #[.int .i64 t0, .int .i64 ky, .bool dn]] (wr.alloc (.cells #[.int .i64 t0, .int .i64 ky, .bool dn] 82)) fun e w' => e = .returned (.tuple #[]) ∧ KeysM w' B (k + 1) H' ∧ But B (B + 1) (wr.alloc (.cells #[.int .i64 t0, .int .i64 ky, .bool dn] 82)) w') := by rw [HPN.out]; exact ihear H t0 ky dn B k _ (km.kept ((But.refl _ _ _).alloc _)) hky.1 hky.2 (by omega)
      have FO : Hid (FlagO wr F (F + 1) (.slice (some ⟨F, 0, none⟩) l.length l.length) (l.map (onB l H))) := fo
      have HCH : Hid (ChanM wr C l.length []) := hch
      have OV : Hid (MeantO wr (C + 1) wr.heap.size (.slice al ML.length pl) ML) := ov
      have HK : Hid (Kept w wr) := hkp
      have LE0 := Loc.new wr [.int .i64 t0, .int .i64 ky, .bool dn] 82
      have HLE0 : Hid (Loc (wr.alloc (.cells #[.int .i64 t0, .int .i64 ky, .bool dn] 82)) wr.heap.size [.int .i64 t0, .int .i64 ky, .bool dn]) := LE0
      have HML : Hid (meaK l es k = ML) := hML
      clear km fo hch ov hkp hd hH hH' hML LE0 HPN
      rw [HML.out]
      repeat (first | (go_at_call 48; refine HC.out.mono ?_; rintro e w7 ⟨rfl, m7, b7⟩; dsimp only) | go_values | go_skip | go_guarded | go_step | go_upon)
      obtain ⟨hFB, hCB, hwB⟩ := HNB.out
      have k17 : But B (B + 1) wr w7 := ((But.refl _ _ wr).alloc _).trans b7
      have M7 : KeysM w7 B (k + 1) H' := m7
      have F7 : FlagO w7 F (F + 1) (.slice (some ⟨F, 0, none⟩) l.length l.length) (mixF l H H' 0) := by rw [mixF_0]; exact FO.out.but k17 (.inr (by omega))
      have C7 : ChanM w7 C l.length (evK l t0 H H' 0) := HCH.out.but k17 (.inr (by omega))
      have O7 : MeantO w7 (C + 1) w7.heap.size (.slice al ML.length pl) ML := (OV.out.but k17 (.inr (by omega))).low
      have KW7 : Kept w w7 := But.onto HK.out k17 hwB
      obtain ⟨E, hE⟩ : ∃ E, wr.heap.size = E := ⟨_, rfl⟩
      have E7 : Loc w7 E [.int .i64 t0, .int .i64 ky, .bool dn] := by rw [← hE]; exact HLE0.out.but b7 (.inr (by omega))
      rw [hE]
      have s7 := k17.size
      have hEC : C + 1 ≤ E := by omega
      clear m7 b7 k17 c0 c1 c2 HC FO HCH OV HK HLE0 hE
      obtain ⟨W7s, hW7s⟩ : ∃ s, w7.heap.size = s := ⟨_, rfl⟩
      rw [hW7s] at O7
      have HEC : Hid (C + 1 ≤ E ∧ W7s ≤ w7.heap.size) := ⟨hEC, by omega⟩
      clear hFB hCB hwB hEC s7 hW7s hsr
      go_loopw [41] (fun i wz => ∃ (j : Nat), j ≤ l.length ∧ i = .int .i64 j ∧ FlagO wz F (F + 1) (.slice (some ⟨F, 0, none⟩) l.length l.length) (mixF l H H' j) ∧ ChanM wz C l.length (evK l t0 H H' j) ∧ MeantO wz (C + 1) W7s (.slice al ML.length pl) ML ∧ Loc wz E [.int .i64 t0, .int .i64 ky, .bool dn] ∧ KeysM wz B (k + 1) H' ∧ Kept w wz) (fun i _ => l.length - (intOf i).toNat)
      case atStart => exact ⟨0, by omega, rfl, F7, C7, O7, E7, M7, KW7⟩
      case round =>
        rename World => wz
        obtain ⟨j, hj, rfl, fz, cz, oz, ez, mz, kz⟩ := hrel
        clear F7 C7 O7 E7 M7 KW7
        by_cases hltj : j < l.length
        · obtain ⟨d, hdj⟩ : ∃ p, l[j]? = some p := ⟨_, List.getElem?_eq_getElem hltj⟩
          obtain ⟨bb, oo, capb, s, ee, c0, c1, hka⟩ := (hv.kept kz).get hdj
          cases ee
          have HDJ : Hid (l[j]? = some d) := hdj
          have HGT : Hid ((mixF l H H' j)[j]? = some (onB l H d)) := mixF_at hdj
          have hmem := List.mem_of_getElem? hdj
          obtain ⟨nm, ch⟩ := d
          dsimp only at c0 c1 hka
          obtain ⟨ah, ph, hsl⟩ := row_nil hka
          subst hsl
          have HMN : Hid (Calls Try.prog 49 #[.map (some B), .slice (some ⟨bb, oo, none⟩) l.length cap, .slice ah ch.length ph] (wz.alloc (.cells #[.string nm, .slice ah ch.length ph] 85)) fun e w' => e = .returned (.bool (onB l H' (nm, ch))) ∧ Kept (wz.alloc (.cells #[.string nm, .slice ah ch.length ph] 85)) w') := imean l (nm, ch) H' B (k + 1) _ _ _ ((hv.kept kz).kept ((But.refl _ _ _).alloc _)) (hka.kept ((But.refl _ _ _).alloc _)) (mz.kept ((But.refl _ _ _).alloc _)) HB1.out hmem
          have FZ : Hid (FlagO wz F (F + 1) (.slice (some ⟨F, 0, none⟩) l.length l.length) (mixF l H H' j)) := fz
          have CZ : Hid (ChanM wz C l.length (evK l t0 H H' j)) := cz
          have OZ : Hid (MeantO wz (C + 1) W7s (.slice al ML.length pl) ML) := oz
          have LEZ : Hid (Loc wz E [.int .i64 t0, .int .i64 ky, .bool dn]) := ez
          have KZ : Hid (KeysM wz B (k + 1) H') := mz
          have HKZ : Hid (Kept w wz) := kz
          have LDZ : Hid (∀ u, Kept (wz.alloc (.cells #[.string nm, .slice ah ch.length ph] 85)) u → Loc u wz.heap.size [.string nm, .slice ah ch.length ph]) := fun u ku => (Loc.new wz [.string nm, .slice ah ch.length ph] 85).kept ku
          have FLC : Hid (∀ u, Kept wz u → u.cell? ⟨F, j, none⟩ = some (.bool (onB l H (nm, ch))) ∧ ∀ o, u.frozen? ⟨F, o, none⟩ = false) := fun u ku => FlagO.cells (FlagO.kept FZ.out ku) HGT.out
          have hez := ez.lt
          have hcz := cz.lt
          have hk1 : (0 : Int) ≤ (j : Int) := by omega
          have hk2 : (j : Int) < (l.length : Int) := by omega
          have HEL : Hid ((evK l t0 H H' j).length ≤ j) := evK_len l t0 H H' j
          clear fz cz oz ez mz kz hdj hka hmem
          have hx : ∃ x, onB l H' (nm, ch) = x := ⟨_, rfl⟩
          have hy : ∃ y, onB l H (nm, ch) = y := ⟨_, rfl⟩
          obtain ⟨x, hx⟩ := hx
          obtain ⟨y, hy⟩ := hy
          rw [hx] at HMN
          rw [hy] at FLC HGT
          have HX : Hid (onB l H' (nm, ch) = x ∧ onB l H (nm, ch) = y) := ⟨hx, hy⟩
          clear hx hy
          cases x with
          | true => cases y with
            | true =>
              repeat (first | (go_at_call 49; refine HMN.out.mono ?_; rintro e w8 ⟨rfl, k8⟩; obtain ⟨g0, g1⟩ := FLC.out w8 (((But.refl _ _ wz).alloc (.cells #[.string nm, .slice ah ch.length ph] 85)).trans k8); have K8 : Hid (Kept wz w8) := ((But.refl _ _ wz).alloc (.cells #[.string nm, .slice ah ch.length ph] 85)).trans k8; have D8 : Hid (Loc w8 wz.heap.size [.string nm, .slice ah ch.length ph]) := LDZ.out w8 k8; have s8 := K8.out.size; clear k8; dsimp only) | go_values | go_skip | go_guarded | go_step | go_upon)
              obtain ⟨hFB, hCB, hwB⟩ := HNB.out
              obtain ⟨hEC, hWs⟩ := HEC.out
              have E1 := evK_same (t := t0) (H := H) (H' := H') HDJ.out (HX.out.1.trans HX.out.2.symm)
              refine ⟨⟨j + 1, hltj, by go_num, ?_, ?_, OZ.out.kept K8.out, LEZ.out.kept K8.out, KZ.out.kept K8.out, HKZ.out.trans K8.out⟩, by simp [intOf]; omega⟩
              · have := FlagO.kept FZ.out K8.out
                rw [mixF_next HDJ.out, HX.out.1, ← HX.out.2, mixF_same HDJ.out]
                exact this
              · rw [E1]
                exact CZ.out.kept K8.out
            | false =>
              repeat (go_not_at_region 17; first | (go_at_call 49; refine HMN.out.mono ?_; rintro e w8 ⟨rfl, k8⟩; obtain ⟨g0, g1⟩ := FLC.out w8 (((But.refl _ _ wz).alloc (.cells #[.string nm, .slice ah ch.length ph] 85)).trans k8); have K8 : Hid (Kept wz w8) := ((But.refl _ _ wz).alloc (.cells #[.string nm, .slice ah ch.length ph] 85)).trans k8; have D8 : Hid (Loc w8 wz.heap.size [.string nm, .slice ah ch.length ph]) := LDZ.out w8 k8; have s8 := K8.out.size; clear k8; dsimp only) | go_values | go_skip | go_guarded | go_step | go_upon)
              obtain ⟨hFB, hCB, hwB⟩ := HNB.out
              obtain ⟨hEC, hWs⟩ := HEC.out
              have B9 : But F (F + 1) w8 (w8.setCell ⟨F, j, none⟩ (.bool true)) := But.setCell (p := ⟨F, j, none⟩) (But.refl F (F + 1) w8) (Nat.le_refl F) (Nat.lt_succ_self F) _
              have hc9 : ChanM (w8.setCell ⟨F, j, none⟩ (.bool true)) C l.length (evK l t0 H H' j) := (CZ.out.kept K8.out).but B9 (.inr (by omega))
              have F9 := FlagO.set (FlagO.kept FZ.out K8.out) (by rw [mixF_len _ _ hj]) HGT.out true
              have E9 : Hid (Loc (w8.setCell ⟨F, j, none⟩ (.bool true)) E [.int .i64 t0, .int .i64 ky, .bool dn]) := (LEZ.out.kept K8.out).but B9 (.inr (by omega))
              have D9 : Hid (Loc (w8.setCell ⟨F, j, none⟩ (.bool true)) wz.heap.size [.string nm, .slice ah ch.length ph]) := D8.out.but B9 (.inr (by omega))
              have FF9 : Hid (FlagO (w8.setCell ⟨F, j, none⟩ (.bool true)) F (F + 1) (.slice (some ⟨F, 0, none⟩) l.length l.length) (mixF l H H' (j + 1))) := by
                show FlagO _ _ _ _ _
                rw [mixF_next HDJ.out, HX.out.1]
                exact F9
              have O9 : Hid (MeantO (w8.setCell ⟨F, j, none⟩ (.bool true)) (C + 1) W7s (.slice al ML.length pl) ML) := (OZ.out.kept K8.out).but B9 (.inr (by omega))
              have M9 : Hid (KeysM (w8.setCell ⟨F, j, none⟩ (.bool true)) B (k + 1) H') := (KZ.out.kept K8.out).but B9 (.inl (by omega))
              have K9 : Hid (Kept w (w8.setCell ⟨F, j, none⟩ (.bool true))) := But.onto (HKZ.out.trans K8.out) B9 (by omega)
              have E1 : Hid (evK l t0 H H' (j + 1) = evK l t0 H H' j ++ [(t0, nm, true)]) := by
                show _ = _
                rw [evK_new (t := t0) (H := H) (H' := H') HDJ.out (by rw [HX.out.1, HX.out.2]; simp), HX.out.1]
              have hwz := D8.out.lt
              clear g0 g1 F9 B9 D8 FZ OZ LEZ KZ HKZ CZ FLC HMN K8 LDZ
              generalize w8.setCell ⟨F, j, none⟩ (.bool true) = w9 at *
              have e9 := E9.out.cell 0 rfl
              have d9 := D9.out.cell 0 rfl
              obtain ⟨s9, r9, tm9, hc9⟩ := hc9
              have HC9 : Hid (w9.heap[C]? = some (.chan l.length ((evK l t0 H H' j).map meantV).toArray false s9 r9 tm9)) := hc9
              clear hc9
              clear hFB hCB hwB hEC hWs
              refine OpsAt.last8 ?_
              repeat (first | go_values | go_skip | go_guarded | go_step | go_upon)
              refine ⟨rfl, OpsAt.sendM (t0, nm, true) rfl rfl rfl rfl rfl HC9.out (by have := HEL.out; omega) ?_⟩
              intro w10 c10 b10 s10
              refine OpsAt.end_ ?_
              have S10 : Hid (w10.heap.size = w9.heap.size) := s10
              clear s10
              repeat (first | go_values | go_skip | go_guarded | go_step | go_upon)
              obtain ⟨hFB, hCB, hwB⟩ := HNB.out
              obtain ⟨hEC, hWs⟩ := HEC.out
              have s10 := S10.out
              refine ⟨⟨j + 1, hltj, by go_num, FF9.out.but b10 (.inl (by omega)), by rw [E1.out]; exact c10, O9.out.but b10 (.inr (by omega)), E9.out.but b10 (.inr (by omega)), M9.out.but b10 (.inl (by omega)), But.onto K9.out b10 (by omega)⟩, by simp [intOf]; omega⟩
          | false => cases y with
            | true =>
              repeat (go_not_at_region 17; first | (go_at_call 49; refine HMN.out.mono ?_; rintro e w8 ⟨rfl, k8⟩; obtain ⟨g0, g1⟩ := FLC.out w8 (((But.refl _ _ wz).alloc (.cells #[.string nm, .slice ah ch.length ph] 85)).trans k8); have K8 : Hid (Kept wz w8) := ((But.refl _ _ wz).alloc (.cells #[.string nm, .slice ah ch.length ph] 85)).trans k8; have D8 : Hid (Loc w8 wz.heap.size [.string nm, .slice ah ch.length ph]) := LDZ.out w8 k8; have s8 := K8.out.size; clear k8; dsimp only) | go_values | go_skip | go_guarded | go_step | go_upon)
              obtain ⟨hFB, hCB, hwB⟩ := HNB.out
              obtain ⟨hEC, hWs⟩ := HEC.out
              have B9 : But F (F + 1) w8 (w8.setCell ⟨F, j, none⟩ (.bool false)) := But.setCell (p := ⟨F, j, none⟩) (But.refl F (F + 1) w8) (Nat.le_refl F) (Nat.lt_succ_self F) _
              have hc9 : ChanM (w8.setCell ⟨F, j, none⟩ (.bool false)) C l.length (evK l t0 H H' j) := (CZ.out.kept K8.out).but B9 (.inr (by omega))
              have F9 := FlagO.set (FlagO.kept FZ.out K8.out) (by rw [mixF_len _ _ hj]) HGT.out false
              have E9 : Hid (Loc (w8.setCell ⟨F, j, none⟩ (.bool false)) E [.int .i64 t0, .int .i64 ky, .bool dn]) := (LEZ.out.kept K8.out).but B9 (.inr (by omega))
              have D9 : Hid (Loc (w8.setCell ⟨F, j, none⟩ (.bool false)) wz.heap.size [.string nm, .slice ah ch.length ph]) := D8.out.but B9 (.inr (by omega))
              have FF9 : Hid (FlagO (w8.setCell ⟨F, j, none⟩ (.bool false)) F (F + 1) (.slice (some ⟨F, 0, none⟩) l.length l.length) (mixF l H H' (j + 1))) := by
                show FlagO _ _ _ _ _
                rw [mixF_next HDJ.out, HX.out.1]
                exact F9
              have O9 : Hid (MeantO (w8.setCell ⟨F, j, none⟩ (.bool false)) (C + 1) W7s (.slice al ML.length pl) ML) := (OZ.out.kept K8.out).but B9 (.inr (by omega))
              have M9 : Hid (KeysM (w8.setCell ⟨F, j, none⟩ (.bool false)) B (k + 1) H') := (KZ.out.kept K8.out).but B9 (.inl (by omega))
              have K9 : Hid (Kept w (w8.setCell ⟨F, j, none⟩ (.bool false))) := But.onto (HKZ.out.trans K8.out) B9 (by omega)
              have E1 : Hid (evK l t0 H H' (j + 1) = evK l t0 H H' j ++ [(t0, nm, false)]) := by
                show _ = _
                rw [evK_new (t := t0) (H := H) (H' := H') HDJ.out (by rw [HX.out.1, HX.out.2]; simp), HX.out.1]
              have hwz := D8.out.lt
              clear g0 g1 F9 B9 D8 FZ OZ LEZ KZ HKZ CZ FLC HMN K8 LDZ
              generalize w8.setCell ⟨F, j, none⟩ (.bool false) = w9 at *
              have e9 := E9.out.cell 0 rfl
              have d9 := D9.out.cell 0 rfl
              obtain ⟨s9, r9, tm9, hc9⟩ := hc9
              have HC9 : Hid (w9.heap[C]? = some (.chan l.length ((evK l t0 H H' j).map meantV).toArray false s9 r9 tm9)) := hc9
              clear hc9
              clear hFB hCB hwB hEC hWs
              refine OpsAt.last8 ?_
              repeat (first | go_values | go_skip | go_guarded | go_step | go_upon)
              refine ⟨rfl, OpsAt.sendM (t0, nm, false) rfl rfl rfl rfl rfl HC9.out (by have := HEL.out; omega) ?_⟩
              intro w10 c10 b10 s10
              refine OpsAt.end_ ?_
              have S10 : Hid (w10.heap.size = w9.heap.size) := s10
              clear s10
              repeat (first | go_values | go_skip | go_guarded | go_step | go_upon)
              obtain ⟨hFB, hCB, hwB⟩ := HNB.out
              obtain ⟨hEC, hWs⟩ := HEC.out
              have s10 := S10.out
              refine ⟨⟨j + 1, hltj, by go_num, FF9.out.but b10 (.inl (by omega)), by rw [E1.out]; exact c10, O9.out.but b10 (.inr (by omega)), E9.out.but b10 (.inr (by omega)), M9.out.but b10 (.inl (by omega)), But.onto K9.out b10 (by omega)⟩, by simp [intOf]; omega⟩
            | false =>
              repeat (first | (go_at_call 49; refine HMN.out.mono ?_; rintro e w8 ⟨rfl, k8⟩; obtain ⟨g0, g1⟩ := FLC.out w8 (((But.refl _ _ wz).alloc (.cells #[.string nm, .slice ah ch.length ph] 85)).trans k8); have K8 : Hid (Kept wz w8) := ((But.refl _ _ wz).alloc (.cells #[.string nm, .slice ah ch.length ph] 85)).trans k8; have D8 : Hid (Loc w8 wz.heap.size [.string nm, .slice ah ch.length ph]) := LDZ.out w8 k8; have s8 := K8.out.size; clear k8; dsimp only) | go_values | go_skip | go_guarded | go_step | go_upon)
              obtain ⟨hFB, hCB, hwB⟩ := HNB.out
              obtain ⟨hEC, hWs⟩ := HEC.out
              have E1 := evK_same (t := t0) (H := H) (H' := H') HDJ.out (HX.out.1.trans HX.out.2.symm)
              refine ⟨⟨j + 1, hltj, by go_num, ?_, ?_, OZ.out.kept K8.out, LEZ.out.kept K8.out, KZ.out.kept K8.out, HKZ.out.trans K8.out⟩, by simp [intOf]; omega⟩
              · have := FlagO.kept FZ.out K8.out
                rw [mixF_next HDJ.out, HX.out.1, ← HX.out.2, mixF_same HDJ.out]
                exact this
              · rw [E1]
                exact CZ.out.kept K8.out
        · have hje : j = l.length := by omega
          subst hje
          rw [mixF_all] at fz
          have hel := evK_len l t0 H H' l.length
          have FZ : Hid (FlagO wz F (F + 1) (.slice (some ⟨F, 0, none⟩) l.length l.length) (l.map (onB l H'))) := fz
          have KZ : Hid (KeysM wz B (k + 1) H') := mz
          have HKZ : Hid (Kept w wz) := kz
          have hcz := cz.lt
          have hez := ez.lt
          have HTK : Hid (Calls Try.prog 50 #[.slice al ML.length pl, .chan (some C)] wz fun e w' => ∃ v', e = .returned v' ∧ MeantO w' (C + 1) w'.heap.size v' (ML ++ evK l t0 H H' l.length) ∧ ChanM w' C l.length [] ∧ But C wz.heap.size wz w') := itake ML (evK l t0 H H' l.length) C l.length (C + 1) W7s _ wz oz cz (by omega) (by omega) (by omega)
          clear fz cz oz ez mz kz
          repeat (first | (go_at_call 50; refine HTK.out.mono ?_; rintro e w9 ⟨v9, rfl, o9, c9, b9⟩; dsimp only) | go_values | go_skip | go_guarded | go_step | go_upon)
          obtain ⟨hFB, hCB, hwB⟩ := HNB.out
          have hEC := HEC.out.1
          have s9 := b9.size
          refine ⟨⟨k + 1, hlt, by go_num, ?_, ?_, c9, ?_, But.onto HKZ.out b9 (by omega), by omega⟩, by simp [intOf]; omega⟩
          · rw [HH'.out]; exact KZ.out.but b9 (.inl (by omega))
          · rw [HH'.out]; exact FZ.out.but b9 (.inl (by omega))
          · rw [HMN1.out]; exact o9
    · have hke : k = es.length := by omega
      subst hke
      obtain ⟨ML, hML⟩ : ∃ M, meaK l es es.length = M := ⟨_, rfl⟩
      rw [hML] at ov ⊢
      have OV : Hid (MeantO wr (C + 1) wr.heap.size (.slice al ML.length pl) ML) := ov
      have HK : Hid (Kept w wr) := hkp
      have HML : Hid (meaK l es es.length = ML) := hML
      clear ov hkp km fo hch hML
      repeat (first | go_values | go_skip | go_guarded | go_step | go_upon)
      go_ret2
      exact ⟨_, rfl, by rw [HML.out]; exact OV.out.mono (by have := HNB.out; omega) (Nat.le_refl _), HK.out⟩

end Go.Proofs.Ythkfpbknfjapaaa

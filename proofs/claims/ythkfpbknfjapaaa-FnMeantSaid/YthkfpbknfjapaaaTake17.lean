/-
  What waits on the channel is taken.
-/
import Derived.Test.YthkfpbknfjapaaaApp1x17
import Derived.Test.YthkfpbknfjapaaaMeaP17
import Derived.Test.YthkfpbknfjapaaaChan17
namespace Go.Proofs.Ythkfpbknfjapaaa
open Go.ChangeShapes Go.WideShapes Go.ChangeAt Go.RowKit

set_option maxRecDepth 100000
set_option linter.unusedVariables false

open Go.Conc
def meantV (d : MeantD) : Value := .agg #[.int .i64 d.1, .string d.2.1, .bool d.2.2]
theorem zero_meant (w : World) : (zeroValue 31).run Try.prog w = .ok (.agg #[.int .i64 0, .string ByteArray.empty, .bool false]) w := by kernel_rfl
/-- The channel at c holds these, in their order. -/
def ChanM (w : World) (c cap : Nat) (ms : List MeantD) : Prop := ∃ s r tm, w.heap[c]? = some (.chan cap (ms.map meantV).toArray false s r tm)
theorem But.chan {w : World} {c cap s r : Nat} {buf : Array Value} {cl tm : Bool} : But c (c + 1) w (w.setChan c cap buf cl s r tm) :=
  ⟨rfl, rfl, by simp [World.setChan], fun k _ ho => by simp only [World.setChan]; rw [Array.getElem?_setIfInBounds_ne (by omega)]⟩
theorem ChanM.but {w w' : World} {c cap lo hi : Nat} {ms : List MeantD} (h : ChanM w c cap ms) (k : But lo hi w w') (ho : c < lo ∨ hi ≤ c) : ChanM w' c cap ms := by
  obtain ⟨s, r, tm, h⟩ := h
  have hl : c < w.heap.size := by
    rcases Nat.lt_or_ge c w.heap.size with h1 | h1
    · exact h1
    · rw [Array.getElem?_eq_none h1] at h; cases h
  exact ⟨s, r, tm, by rw [k.block c hl (by omega)]; exact h⟩
theorem ChanM.kept {w w' : World} {c cap : Nat} {ms : List MeantD} (h : ChanM w c cap ms) (k : Kept w w') : ChanM w' c cap ms := h.but k (by omega)
theorem ChanM.lt {w : World} {c cap : Nat} {ms : List MeantD} (h : ChanM w c cap ms) : c < w.heap.size := by
  obtain ⟨s, r, tm, h⟩ := h
  rcases Nat.lt_or_ge c w.heap.size with h1 | h1
  · exact h1
  · rw [Array.getElem?_eq_none h1] at h; cases h
theorem ChanM.set {w : World} {c cap s r : Nat} {tm : Bool} (ms : List MeantD) (h : c < w.heap.size) : ChanM (w.setChan c cap (ms.map meantV).toArray false s r tm) c cap ms := ⟨s, r, tm, heap_setChan _ _ _ _ _ _ _ _ h⟩
theorem OpsAt.takeL {P : Program} {ops : Array Oper} {Q : Exit → Act → World → Prop} {i : Nat} {rest : List Nat} {o : Oper} {a : Act} {w : World} {c cap s r : Nat} {x : Value} {xs : List Value} {tm cl : Bool} {z : Value} (ho : ops[i]? = some o) (hg : o.guard = Option.none) (hr : (execOp a.eval o).run P w = .ok (.comm #[rcase c z] false .select) w) (hc : w.heap[c]? = some (.chan cap (x :: xs).toArray cl s r tm))
    (h : OpsAt P ops Q rest (a.put o.dst (.tuple #[.int .i64 0, .bool true, x])) (w.setChan c cap xs.toArray cl s (r + 1) tm)) : OpsAt P ops Q (i :: rest) a w := by
  refine OpsAt.take ho hg hr hc (by simp) ?_
  have e : (x :: xs).toArray.extract 1 (x :: xs).toArray.size = xs.toArray := by simp
  rw [e]
  exact h
theorem OpsAt.noneL {P : Program} {ops : Array Oper} {Q : Exit → Act → World → Prop} {i : Nat} {rest : List Nat} {o : Oper} {a : Act} {w : World} {c cap s r : Nat} {tm : Bool} {z : Value} (ho : ops[i]? = some o) (hg : o.guard = Option.none) (hr : (execOp a.eval o).run P w = .ok (.comm #[rcase c z] false .select) w) (hc : w.heap[c]? = some (.chan cap #[] false s r tm))
    (h : OpsAt P ops Q rest (a.put o.dst (.tuple #[.int .i64 (-1), .bool false, z])) w) : OpsAt P ops Q (i :: rest) a w := OpsAt.none ho hg hr hc h
def lenV : Value → Nat
  | .slice _ n _ => n
  | _ => 0
set_option maxHeartbeats 8000000 in
theorem itake (l ms : List MeantD) (c cap lo hi : Nat) (v : Value) (w : World) (hv : MeantO w lo hi v l) (hc : ChanM w c cap ms) (hlo : c < lo) (hlw : lo ≤ w.heap.size) (hn : l.length + ms.length ≤ 100000) :
    Calls Try.prog 50 #[v, .chan (some c)] w fun e w' => ∃ v', e = .returned v' ∧ MeantO w' lo w'.heap.size v' (l ++ ms) ∧ ChanM w' c cap [] ∧ But c w.heap.size w w' := by
  obtain ⟨ao, cp, hf⟩ := hv.form
  subst hf
  go_enter Try.func50, Try.ntmps50
  repeat (first | go_values | go_skip | go_guarded | go_step | go_upon)
  go_loopw [0] (fun lv wr => ∃ (k : Nat), k ≤ ms.length ∧ MeantO wr lo wr.heap.size lv (l ++ ms.take k) ∧ ChanM wr c cap (ms.drop k) ∧ But c w.heap.size w wr) (fun lv wr => l.length + ms.length - lenV lv)
  case atStart => exact ⟨0, by omega, by simpa using hv.low, by simpa using hc, But.refl _ _ _⟩
  case round =>
    obtain ⟨k, hk, ov, hch, hkp⟩ := hrel
    obtain ⟨ar, cr, hf⟩ := ov.form
    subst hf
    have sr := hkp.size
    obtain ⟨s, r, tm, hc0⟩ := hch
    have hcl := ChanM.lt ⟨s, r, tm, hc0⟩
    have HK : Hid (But c w.heap.size w wr) := hkp
    clear hkp hv hc
    by_cases hlt : k < ms.length
    · obtain ⟨d, hd⟩ : ∃ p, ms[k]? = some p := ⟨_, List.getElem?_eq_getElem hlt⟩
      have hdr : ms.drop k = d :: ms.drop (k + 1) := by
        obtain ⟨h1, h2⟩ := List.getElem?_eq_some_iff.1 hd
        rw [← h2]
        exact List.drop_eq_getElem_cons h1
      have HTK : Hid (ms.take (k + 1) = ms.take k ++ [d]) := take_snoc hd
      rw [hdr] at hc0
      obtain ⟨t0, nm, on⟩ := d
      have hlen : (l ++ ms.take k).length = l.length + k := by simp; omega
      obtain ⟨X, hX⟩ : ∃ X, l ++ ms.take k = X := ⟨_, rfl⟩
      rw [hX] at ov hlen ⊢
      have HX : Hid (l ++ ms.take k = X) := hX
      have HXL : Hid (X.length = l.length + k) := hlen
      have OV : Hid (MeantO wr lo wr.heap.size (.slice ar X.length cr) X) := ov
      clear hX hd hdr ov
      iterate 11 (first | go_values | go_skip | go_guarded | go_step | go_upon)
      refine OpsAt.first (n := 2) (by rfl) ?_
      refine OpsAt.takeL rfl rfl (select_run rfl rfl (zero_meant wr)) hc0 ?_
      have B1 : But c (c + 1) wr (wr.setChan c cap (List.map meantV (List.drop (k + 1) ms)).toArray false s (r + 1) tm) := But.chan
      have C1 : ChanM (wr.setChan c cap (List.map meantV (List.drop (k + 1) ms)).toArray false s (r + 1) tm) c cap (ms.drop (k + 1)) := ChanM.set _ hcl
      have s1 : (wr.setChan c cap (List.map meantV (List.drop (k + 1) ms)).toArray false s (r + 1) tm).heap.size = wr.heap.size := size_setChan _ _ _ _ _ _ _ _
      generalize wr.setChan c cap (List.map meantV (List.drop (k + 1) ms)).toArray false s (r + 1) tm = w1 at *
      refine OpsAt.rest rfl rfl ?_
      have O1 : Hid (MeantO w1 lo w1.heap.size (.slice ar X.length cr) X) := (OV.out.but B1 (.inr (by omega))).low
      have K1 : Hid (But c w.heap.size w w1) := HK.out.trans (B1.mono (Nat.le_refl _) (by omega))
      have HC1 : Hid (ChanM w1 c cap (ms.drop (k + 1))) := C1
      have hw1 : w.heap.size ≤ w1.heap.size := by omega
      have hlo1 : lo ≤ w1.heap.size := by omega
      clear B1 C1 OV HK hc0 s1 hlen sr
      unfold meantV
      dsimp only
      repeat (first | (at_builtin; refine forgetL (fun w' => w' = _) rfl ?_) | go_values | go_skip | go_guarded | go_step | go_upon)
      intro W7 hW7
      rw [hW7]
      clear hW7 W7
      refine app1_meant rfl _ _ rfl (lo := lo) (hi := w1.heap.size) rfl (O1.out.kept (((But.refl _ _ w1).alloc _).alloc _)) (t0, nm, on) rfl (by have := Loc.new (w1.alloc (.cells #[.int .i64 t0, .string nm, .bool on] 31)) [.int .i64 t0, .string nm, .bool on] 31; simp only [World.size_alloc] at this; exact this) (by have := HXL.out; omega) (by simp; omega) ?_
      intro v5 w5 o5 b5 _
      have b5' := But.inner b5 (O1.out.kept (((But.refl _ _ w1).alloc (.cells #[.int .i64 t0, .string nm, .bool on] 31)).alloc (.cells #[.int .i64 t0, .string nm, .bool on] 31)))
      have K5 : Hid (But c w.heap.size w w5) := by
        have a1 : But c w.heap.size w ((w1.alloc (.cells #[.int .i64 t0, .string nm, .bool on] 31)).alloc (.cells #[.int .i64 t0, .string nm, .bool on] 31)) := (K1.out.alloc _).alloc _
        exact ⟨b5'.os.trans a1.os, b5'.out.trans a1.out, Nat.le_trans a1.size b5'.size, fun i hi' ho => (b5'.block i (Nat.lt_of_lt_of_le hi' a1.size) (by omega)).trans (a1.block i hi' ho)⟩
      have HC5 : Hid (ChanM w5 c cap (ms.drop (k + 1))) := (HC1.out.kept (((But.refl _ _ w1).alloc (.cells #[.int .i64 t0, .string nm, .bool on] 31)).alloc (.cells #[.int .i64 t0, .string nm, .bool on] 31))).but b5' (.inl hlo)
      obtain ⟨a5, p5, hf⟩ := o5.form
      subst hf
      have O5 : Hid (MeantO w5 lo w5.heap.size (.slice a5 (X ++ [(t0, nm, on)]).length p5) (X ++ [(t0, nm, on)])) := o5
      obtain ⟨Z, hZ⟩ : ∃ Z, X ++ [(t0, nm, on)] = Z := ⟨_, rfl⟩
      have hZl : Z.length = l.length + k + 1 := by rw [← hZ, List.length_append, HXL.out]; rfl
      rw [hZ] at O5 ⊢
      have HZ : Hid (l ++ ms.take (k + 1) = Z) := by show _ = _; rw [HTK.out, ← List.append_assoc, HX.out, hZ]
      have HZL : Hid (Z.length = l.length + k + 1) := hZl
      clear hZ hZl o5 b5 b5' O1 K1 HC1
      repeat (first | go_values | go_skip | go_guarded | go_step | go_upon)
      refine ⟨⟨k + 1, hlt, ?_, HC5.out, K5.out⟩, by simp only [lenV]; have := HXL.out; have := HZL.out; omega⟩
      rw [HZ.out]
      exact O5.out
    · have hke : k = ms.length := by omega
      subst hke
      rw [List.drop_length] at hc0
      rw [List.take_length] at ov ⊢
      obtain ⟨Y, hY⟩ : ∃ Y, l ++ ms = Y := ⟨_, rfl⟩
      rw [hY] at ov ⊢
      have HY : Hid (l ++ ms = Y) := hY
      clear hY
      have OV : Hid (MeantO wr lo wr.heap.size (.slice ar Y.length cr) Y) := ov
      have HC : Hid (ChanM wr c cap []) := ⟨s, r, tm, hc0⟩
      clear ov
      iterate 11 (first | go_values | go_skip | go_guarded | go_step | go_upon)
      refine OpsAt.first (n := 2) (by rfl) ?_
      refine OpsAt.noneL rfl rfl (select_run rfl rfl (zero_meant wr)) hc0 ?_
      refine OpsAt.rest rfl rfl ?_
      clear hc0
      repeat (first | go_values | go_skip | go_guarded | go_step | go_upon)
      go_ret
      exact ⟨.slice ar Y.length cr, rfl, by rw [HY.out]; exact OV.out, HC.out, HK.out⟩

end Go.Proofs.Ythkfpbknfjapaaa

/-
  Lists of buses: how they lie in memory, and what comes in.
-/
import Derived.Test.YtghmnhohdbombaaSt16
namespace Go.Proofs.Ytghmnhohdbombaa
open Go.ChangeShapes Go.WideShapes Go.ChangeAt Go.RowKit Ieee
abbrev BusD := Nat × Nat × Nat × Nat × Nat × Nat × Int
def busC (p : BusD) : List Value := [.float .f64 p.1, .float .f64 p.2.1, .float .f64 p.2.2.1, .float .f64 p.2.2.2.1, .float .f64 p.2.2.2.2.1, .float .f64 p.2.2.2.2.2.1, .int .i64 p.2.2.2.2.2.2]
theorem busC_len (p : BusD) : (busC p).length = 7 := rfl
def bus0 : BusD := (0, 0, 0, 0, 0, 0, 0)
def BusAt (w : World) (v : Value) (ps : List BusD) : Prop := RowAt w v ps.length (ps.flatMap busC)
def BusO (w : World) (lo hi : Nat) (v : Value) (ps : List BusD) : Prop := RowO w lo hi 94 7 v ps.length (ps.flatMap busC)
theorem BusAt.kept {w w' : World} {v : Value} {ps : List BusD} (h : BusAt w v ps) (k : Kept w w') : BusAt w' v ps := RowAt.kept h k
theorem BusO.kept {w w' : World} {lo hi : Nat} {v : Value} {ps : List BusD} (h : BusO w lo hi v ps) (k : Kept w w') : BusO w' lo hi v ps := RowO.kept h k
theorem BusO.but {w w' : World} {lo hi lo' hi' : Nat} {v : Value} {ps : List BusD} (h : BusO w lo hi v ps) (k : But lo' hi' w w') (ho : hi ≤ lo' ∨ hi' ≤ lo) : BusO w' lo hi v ps := RowO.but h k ho
theorem BusO.mono {w : World} {lo hi lo' hi' : Nat} {v : Value} {ps : List BusD} (h : BusO w lo hi v ps) (h1 : lo' ≤ lo) (h2 : hi ≤ hi') : BusO w lo' hi' v ps := RowO.mono h h1 h2
theorem BusO.low {w : World} {lo hi : Nat} {v : Value} {ps : List BusD} (h : BusO w lo hi v ps) : BusO w lo w.heap.size v ps := RowO.low h
theorem BusO.at {w : World} {lo hi : Nat} {v : Value} {ps : List BusD} (h : BusO w lo hi v ps) : BusAt w v ps := own_row h.1
theorem BusO.form {w : World} {lo hi : Nat} {v : Value} {ps : List BusD} (h : BusO w lo hi v ps) : ∃ ao cap, v = .slice ao ps.length cap := by
  obtain ⟨ao, cap, e, _⟩ := own_form h.1
  exact ⟨ao, cap, e⟩
theorem bus_get {w : World} {v : Value} {ps : List BusD} (h : BusAt w v ps) {i : Nat} {p : BusD} (hp : ps[i]? = some p) :
    ∃ b o cap, v = .slice (some ⟨b, o, none⟩) ps.length cap ∧ w.cell? ⟨b, o + i * 7, none⟩ = some (.float .f64 p.1) ∧ w.cell? ⟨b, o + i * 7 + 1, none⟩ = some (.float .f64 p.2.1) ∧ w.cell? ⟨b, o + i * 7 + 2, none⟩ = some (.float .f64 p.2.2.1) ∧ w.cell? ⟨b, o + i * 7 + 3, none⟩ = some (.float .f64 p.2.2.2.1) ∧ w.cell? ⟨b, o + i * 7 + 4, none⟩ = some (.float .f64 p.2.2.2.2.1) ∧ w.cell? ⟨b, o + i * 7 + 5, none⟩ = some (.float .f64 p.2.2.2.2.2.1) ∧ w.cell? ⟨b, o + i * 7 + 6, none⟩ = some (.int .i64 p.2.2.2.2.2.2) := by
  obtain ⟨b, o, cap, e, hc⟩ := row_get 7 busC busC_len (by omega) h hp
  exact ⟨b, o, cap, e, hc 0 _ rfl, hc 1 _ rfl, hc 2 _ rfl, hc 3 _ rfl, hc 4 _ rfl, hc 5 _ rfl, hc 6 _ rfl⟩
theorem BusO.cells {w : World} {lo hi g cap n : Nat} {ps : List BusD} (h : BusO w lo hi (.slice (some ⟨g, 0, none⟩) n cap) ps) {i : Nat} {p : BusD} (hp : ps[i]? = some p) :
    w.cell? ⟨g, i * 7, none⟩ = some (.float .f64 p.1) ∧ w.cell? ⟨g, i * 7 + 1, none⟩ = some (.float .f64 p.2.1) ∧ w.cell? ⟨g, i * 7 + 2, none⟩ = some (.float .f64 p.2.2.1) ∧ w.cell? ⟨g, i * 7 + 3, none⟩ = some (.float .f64 p.2.2.2.1) ∧ w.cell? ⟨g, i * 7 + 4, none⟩ = some (.float .f64 p.2.2.2.2.1) ∧ w.cell? ⟨g, i * 7 + 5, none⟩ = some (.float .f64 p.2.2.2.2.2.1) ∧ w.cell? ⟨g, i * 7 + 6, none⟩ = some (.int .i64 p.2.2.2.2.2.2) ∧ ∀ o, w.frozen? ⟨g, o, none⟩ = false := by
  obtain ⟨hc, hf⟩ := own_get 7 busC busC_len (by omega) h hp
  exact ⟨hc 0 _ rfl, hc 1 _ rfl, hc 2 _ rfl, hc 3 _ rfl, hc 4 _ rfl, hc 5 _ rfl, hc 6 _ rfl, hf⟩
theorem BusO.set {w : World} {lo hi g cap n : Nat} {ps : List BusD} (h : BusO w lo hi (.slice (some ⟨g, 0, none⟩) n cap) ps) (hn : n = ps.length) {i : Nat} {p q : BusD} (hp : ps[i]? = some p) (j : Nat) (hj : j < 7) (u : Value) (hu : (busC p).set j u = busC q) :
    BusO (w.setCell ⟨g, i * 7 + j, none⟩ u) lo hi (.slice (some ⟨g, 0, none⟩) n cap) (ps.set i q) := by
  subst hn
  have := RowO.set h (i * 7 + j) u
  unfold BusO
  rw [List.length_set]
  rw [Nat.mul_comm i 7] at this ⊢
  rw [flat_set 7 busC busC_len ps i j p q u hp hj hu] at this
  exact this
/-- An element of a row's own set anew, field by field. -/
theorem BusO.store {w : World} {lo hi g cap n : Nat} {ps : List BusD} (h : BusO w lo hi (.slice (some ⟨g, 0, none⟩) n cap) ps) (hn : n = ps.length) {i : Nat} {p : BusD} (hp : ps[i]? = some p) (q : BusD) :
    (w.setCell ⟨g, i * 7, none⟩ (.float .f64 q.1)).cell? ⟨g, i * 7 + 1, none⟩ = some (.float .f64 p.2.1) ∧
    ((w.setCell ⟨g, i * 7, none⟩ (.float .f64 q.1)).setCell ⟨g, i * 7 + 1, none⟩ (.float .f64 q.2.1)).cell? ⟨g, i * 7 + 2, none⟩ = some (.float .f64 p.2.2.1) ∧
    (((w.setCell ⟨g, i * 7, none⟩ (.float .f64 q.1)).setCell ⟨g, i * 7 + 1, none⟩ (.float .f64 q.2.1)).setCell ⟨g, i * 7 + 2, none⟩ (.float .f64 q.2.2.1)).cell? ⟨g, i * 7 + 3, none⟩ = some (.float .f64 p.2.2.2.1) ∧
    ((((w.setCell ⟨g, i * 7, none⟩ (.float .f64 q.1)).setCell ⟨g, i * 7 + 1, none⟩ (.float .f64 q.2.1)).setCell ⟨g, i * 7 + 2, none⟩ (.float .f64 q.2.2.1)).setCell ⟨g, i * 7 + 3, none⟩ (.float .f64 q.2.2.2.1)).cell? ⟨g, i * 7 + 4, none⟩ = some (.float .f64 p.2.2.2.2.1) ∧
    (((((w.setCell ⟨g, i * 7, none⟩ (.float .f64 q.1)).setCell ⟨g, i * 7 + 1, none⟩ (.float .f64 q.2.1)).setCell ⟨g, i * 7 + 2, none⟩ (.float .f64 q.2.2.1)).setCell ⟨g, i * 7 + 3, none⟩ (.float .f64 q.2.2.2.1)).setCell ⟨g, i * 7 + 4, none⟩ (.float .f64 q.2.2.2.2.1)).cell? ⟨g, i * 7 + 5, none⟩ = some (.float .f64 p.2.2.2.2.2.1) ∧
    ((((((w.setCell ⟨g, i * 7, none⟩ (.float .f64 q.1)).setCell ⟨g, i * 7 + 1, none⟩ (.float .f64 q.2.1)).setCell ⟨g, i * 7 + 2, none⟩ (.float .f64 q.2.2.1)).setCell ⟨g, i * 7 + 3, none⟩ (.float .f64 q.2.2.2.1)).setCell ⟨g, i * 7 + 4, none⟩ (.float .f64 q.2.2.2.2.1)).setCell ⟨g, i * 7 + 5, none⟩ (.float .f64 q.2.2.2.2.2.1)).cell? ⟨g, i * 7 + 6, none⟩ = some (.int .i64 p.2.2.2.2.2.2) ∧
    BusO (((((((w.setCell ⟨g, i * 7, none⟩ (.float .f64 q.1)).setCell ⟨g, i * 7 + 1, none⟩ (.float .f64 q.2.1)).setCell ⟨g, i * 7 + 2, none⟩ (.float .f64 q.2.2.1)).setCell ⟨g, i * 7 + 3, none⟩ (.float .f64 q.2.2.2.1)).setCell ⟨g, i * 7 + 4, none⟩ (.float .f64 q.2.2.2.2.1)).setCell ⟨g, i * 7 + 5, none⟩ (.float .f64 q.2.2.2.2.2.1)).setCell ⟨g, i * 7 + 6, none⟩ (.int .i64 q.2.2.2.2.2.2)) lo hi (.slice (some ⟨g, 0, none⟩) n cap) (ps.set i q) := by
  have hi' : i < ps.length := (List.getElem?_eq_some_iff.1 hp).1
  have h1 := h.set (by simpa using hn) hp 0 (by omega) (.float .f64 q.1) (q := (q.1, p.2)) rfl
  have g1 : (ps.set i (q.1, p.2))[i]? = some (q.1, p.2) := by simp [hi']
  have h2 := h1.set (by simpa using hn) g1 1 (by omega) (.float .f64 q.2.1) (q := (q.1, q.2.1, p.2.2)) rfl
  have g2 : ((ps.set i (q.1, p.2)).set i (q.1, q.2.1, p.2.2))[i]? = some (q.1, q.2.1, p.2.2) := by simp [hi']
  have h3 := h2.set (by simpa using hn) g2 2 (by omega) (.float .f64 q.2.2.1) (q := (q.1, q.2.1, q.2.2.1, p.2.2.2)) rfl
  have g3 : (((ps.set i (q.1, p.2)).set i (q.1, q.2.1, p.2.2)).set i (q.1, q.2.1, q.2.2.1, p.2.2.2))[i]? = some (q.1, q.2.1, q.2.2.1, p.2.2.2) := by simp [hi']
  have h4 := h3.set (by simpa using hn) g3 3 (by omega) (.float .f64 q.2.2.2.1) (q := (q.1, q.2.1, q.2.2.1, q.2.2.2.1, p.2.2.2.2)) rfl
  have g4 : ((((ps.set i (q.1, p.2)).set i (q.1, q.2.1, p.2.2)).set i (q.1, q.2.1, q.2.2.1, p.2.2.2)).set i (q.1, q.2.1, q.2.2.1, q.2.2.2.1, p.2.2.2.2))[i]? = some (q.1, q.2.1, q.2.2.1, q.2.2.2.1, p.2.2.2.2) := by simp [hi']
  have h5 := h4.set (by simpa using hn) g4 4 (by omega) (.float .f64 q.2.2.2.2.1) (q := (q.1, q.2.1, q.2.2.1, q.2.2.2.1, q.2.2.2.2.1, p.2.2.2.2.2)) rfl
  have g5 : (((((ps.set i (q.1, p.2)).set i (q.1, q.2.1, p.2.2)).set i (q.1, q.2.1, q.2.2.1, p.2.2.2)).set i (q.1, q.2.1, q.2.2.1, q.2.2.2.1, p.2.2.2.2)).set i (q.1, q.2.1, q.2.2.1, q.2.2.2.1, q.2.2.2.2.1, p.2.2.2.2.2))[i]? = some (q.1, q.2.1, q.2.2.1, q.2.2.2.1, q.2.2.2.2.1, p.2.2.2.2.2) := by simp [hi']
  have h6 := h5.set (by simpa using hn) g5 5 (by omega) (.float .f64 q.2.2.2.2.2.1) (q := (q.1, q.2.1, q.2.2.1, q.2.2.2.1, q.2.2.2.2.1, q.2.2.2.2.2.1, p.2.2.2.2.2.2)) rfl
  have g6 : ((((((ps.set i (q.1, p.2)).set i (q.1, q.2.1, p.2.2)).set i (q.1, q.2.1, q.2.2.1, p.2.2.2)).set i (q.1, q.2.1, q.2.2.1, q.2.2.2.1, p.2.2.2.2)).set i (q.1, q.2.1, q.2.2.1, q.2.2.2.1, q.2.2.2.2.1, p.2.2.2.2.2)).set i (q.1, q.2.1, q.2.2.1, q.2.2.2.1, q.2.2.2.2.1, q.2.2.2.2.2.1, p.2.2.2.2.2.2))[i]? = some (q.1, q.2.1, q.2.2.1, q.2.2.2.1, q.2.2.2.2.1, q.2.2.2.2.2.1, p.2.2.2.2.2.2) := by simp [hi']
  have h7 := h6.set (by simpa using hn) g6 6 (by omega) (.int .i64 q.2.2.2.2.2.2) (q := q) rfl
  refine ⟨(h1.cells g1).2.1, (h2.cells g2).2.2.1, (h3.cells g3).2.2.2.1, (h4.cells g4).2.2.2.2.1, (h5.cells g5).2.2.2.2.2.1, (h6.cells g6).2.2.2.2.2.2.1, by simpa using h7⟩
def BusOk (p : BusD) : Prop := p.1 < 18446744073709551616 ∧ p.2.1 < 18446744073709551616 ∧ p.2.2.1 < 18446744073709551616 ∧ p.2.2.2.1 < 18446744073709551616 ∧ p.2.2.2.2.1 < 18446744073709551616 ∧ p.2.2.2.2.2.1 < 18446744073709551616
section
variable {H : Type} {enc : TypeId × Value → H} {w : World} {base : Nat} {spare : Nat → Bool} {held : Bool}
set_option maxRecDepth 100000
open Go.Deep
theorem open_bus {fuel : Nat} {cs : List Value} {x : DataW H × List MemPlace} (h : DataW.trod enc Try.prog w base spare held fuel 98 cs = some x) : ∃ p : BusD, cs = busC p ∧ BusOk p := by
  obtain ⟨xs, n, _, rfl, hl, hlen, hf⟩ := DataW.trod_struct Try.underlying98 h
  match xs, hlen with
  | [y0, y1, y2], _ =>
    have h0 : DataW.trod enc Try.prog w base spare held n 23 ((cs.drop 0).take (Try.prog.cellsOf 23)) = some y0 := by simpa using hf 0 _ rfl
    have h1 : DataW.trod enc Try.prog w base spare held n 34 ((cs.drop 1).take (Try.prog.cellsOf 34)) = some y1 := by simpa using hf 1 _ rfl
    have h2 : DataW.trod enc Try.prog w base spare held n 3 ((cs.drop 6).take (Try.prog.cellsOf 3)) = some y2 := by simpa using hf 2 _ rfl
    obtain ⟨a0, e0, _, s0⟩ := trod_float Try.underlying23 h0
    replace s0 : a0 < 18446744073709551616 := by simpa [Lit.wf] using s0
    obtain ⟨q, e1, hq⟩ := open_filter h1
    obtain ⟨a6, e6, _, _⟩ := DataW.trod_int Try.underlying3 h2
    rw [show Try.prog.cellsOf 98 = 7 by kernel_rfl] at hl
    match cs, hl with
    | [c0, c1, c2, c3, c4, c5, c6], _ =>
      simp [show Try.prog.cellsOf 23 = 1 by kernel_rfl, show Try.prog.cellsOf 34 = 5 by kernel_rfl, show Try.prog.cellsOf 3 = 1 by kernel_rfl, filterC] at e0 e1 e6
      obtain ⟨e1, e2, e3, e4, e5⟩ := e1
      subst e0 e1 e2 e3 e4 e5 e6
      exact ⟨(a0, q.1, q.2.1, q.2.2.1, q.2.2.2.1, q.2.2.2.2, a6), rfl, s0, hq⟩
theorem open_busS {v : Value} {d : DataW H} {ps : List MemPlace} {r : Reach} {b0 : Nat} (hval : Value.okWide Try.prog w r b0 59 v) (hd : DataW.Trod enc Try.prog w base spare held 59 v d ps) : ∃ l : List BusD, BusAt w v l ∧ (∀ p ∈ l, BusOk p) ∧ l.length ≤ maxLen := by
  obtain ⟨ao, len, cap, rfl⟩ := okWide_slice Try.underlying59 hval
  obtain ⟨fuel, hf⟩ := hd
  obtain ⟨u, l, e, hr, hq, hl⟩ := open_rows (α := BusD) Try.underlying59 (show Try.prog.cellsOf 98 = 7 by kernel_rfl) (by omega) busC busC_len BusOk (fun _ _ _ h => open_bus h) hf
  simp [Value.cells] at e
  subst e
  exact ⟨l, hr, hq, hl⟩
end

theorem szBusS (ps : List BusD) (v : Value) (left : Int) (w : World) (hv : BusAt w v ps) (hl : 0 ≤ left) (hm : left ≤ 1048576) (hn : ps.length ≤ 9223372036854775807) :
    Calls Try.prog 31 #[v, .int .i64 left] w fun e w' => e = .returned (.int .i64 (leftOf left ps.length)) ∧ Kept w w' := by
  obtain ⟨ao, cap, hsl⟩ := row_nil hv
  subst hsl
  by_cases hc : left < (ps.length : Int)
  · have hc2 : decide (left - (ps.length : Int) < 0) = true := by simp; omega
    go_enter Try.func31, Try.ntmps31
    go_wp2
    go_ret
    exact ⟨ret_int (leftOf_no (by omega)).symm, But.refl _ _ _⟩
  · have hc2 : decide (left - (ps.length : Int) < 0) = false := by simp; omega
    go_enter Try.func31, Try.ntmps31
    go_wp2
    go_ret
    exact ⟨ret_int (by rw [leftOf_yes (by omega)]), But.refl _ _ _⟩

end Go.Proofs.Ytghmnhohdbombaa

/-
  Lists of figures, of numbers, of pairs and of meetings; one more behind each.
-/
import Derived.Test.YtfibikkbhbmfkaaImpl9
import Derived.Test.YtfibikkbhbmfkaaShapes9
namespace Go.Proofs.Ytfibikkbhbmfkaa
open Go.ChangeShapes Go.WideShapes Go.ChangeAt Go.RowKit

set_option maxRecDepth 100000
set_option linter.unusedVariables false
set_option linter.unusedSimpArgs false
abbrev FigD := ShapeD
def figC (p : FigD) : List Value := [figV (p)]
theorem figC_len (p : FigD) : (figC p).length = 1 := rfl
def fig0 : FigD := (shape0)
def FigAt (w : World) (v : Value) (ps : List FigD) : Prop := RowAt w v ps.length (ps.flatMap figC)
def FigO (w : World) (lo hi : Nat) (v : Value) (ps : List FigD) : Prop := RowO w lo hi 56 1 v ps.length (ps.flatMap figC)
theorem FigAt.kept {w w' : World} {v : Value} {ps : List FigD} (h : FigAt w v ps) (k : Kept w w') : FigAt w' v ps := RowAt.kept h k
theorem FigO.kept {w w' : World} {lo hi : Nat} {v : Value} {ps : List FigD} (h : FigO w lo hi v ps) (k : Kept w w') : FigO w' lo hi v ps := RowO.kept h k
theorem FigO.but {w w' : World} {lo hi lo' hi' : Nat} {v : Value} {ps : List FigD} (h : FigO w lo hi v ps) (k : But lo' hi' w w') (ho : hi ≤ lo' ∨ hi' ≤ lo) : FigO w' lo hi v ps := RowO.but h k ho
theorem FigO.mono {w : World} {lo hi lo' hi' : Nat} {v : Value} {ps : List FigD} (h : FigO w lo hi v ps) (h1 : lo' ≤ lo) (h2 : hi ≤ hi') : FigO w lo' hi' v ps := RowO.mono h h1 h2
theorem FigO.low {w : World} {lo hi : Nat} {v : Value} {ps : List FigD} (h : FigO w lo hi v ps) : FigO w lo w.heap.size v ps := RowO.low h
theorem FigO.at {w : World} {lo hi : Nat} {v : Value} {ps : List FigD} (h : FigO w lo hi v ps) : FigAt w v ps := own_row h.1
theorem FigO.form {w : World} {lo hi : Nat} {v : Value} {ps : List FigD} (h : FigO w lo hi v ps) : ∃ ao cap, v = .slice ao ps.length cap := by
  obtain ⟨ao, cap, e, _⟩ := own_form h.1
  exact ⟨ao, cap, e⟩
abbrev NumD := Int
def numC (p : NumD) : List Value := [.int .i64 p]
theorem numC_len (p : NumD) : (numC p).length = 1 := rfl
def num0 : NumD := (0)
def NumAt (w : World) (v : Value) (ps : List NumD) : Prop := RowAt w v ps.length (ps.flatMap numC)
def NumO (w : World) (lo hi : Nat) (v : Value) (ps : List NumD) : Prop := RowO w lo hi 3 1 v ps.length (ps.flatMap numC)
theorem NumAt.kept {w w' : World} {v : Value} {ps : List NumD} (h : NumAt w v ps) (k : Kept w w') : NumAt w' v ps := RowAt.kept h k
theorem NumO.kept {w w' : World} {lo hi : Nat} {v : Value} {ps : List NumD} (h : NumO w lo hi v ps) (k : Kept w w') : NumO w' lo hi v ps := RowO.kept h k
theorem NumO.but {w w' : World} {lo hi lo' hi' : Nat} {v : Value} {ps : List NumD} (h : NumO w lo hi v ps) (k : But lo' hi' w w') (ho : hi ≤ lo' ∨ hi' ≤ lo) : NumO w' lo hi v ps := RowO.but h k ho
theorem NumO.mono {w : World} {lo hi lo' hi' : Nat} {v : Value} {ps : List NumD} (h : NumO w lo hi v ps) (h1 : lo' ≤ lo) (h2 : hi ≤ hi') : NumO w lo' hi' v ps := RowO.mono h h1 h2
theorem NumO.low {w : World} {lo hi : Nat} {v : Value} {ps : List NumD} (h : NumO w lo hi v ps) : NumO w lo w.heap.size v ps := RowO.low h
theorem NumO.at {w : World} {lo hi : Nat} {v : Value} {ps : List NumD} (h : NumO w lo hi v ps) : NumAt w v ps := own_row h.1
theorem NumO.form {w : World} {lo hi : Nat} {v : Value} {ps : List NumD} (h : NumO w lo hi v ps) : ∃ ao cap, v = .slice ao ps.length cap := by
  obtain ⟨ao, cap, e, _⟩ := own_form h.1
  exact ⟨ao, cap, e⟩

theorem fig_get {w : World} {v : Value} {ps : List FigD} (h : FigAt w v ps) {i : Nat} {p : FigD} (hp : ps[i]? = some p) :
    ∃ b o cap, v = .slice (some ⟨b, o, none⟩) ps.length cap ∧ w.cell? ⟨b, o + i, none⟩ = some (figV p) := by
  obtain ⟨b, o, cap, e, hc⟩ := row_get 1 figC figC_len (by omega) h hp
  exact ⟨b, o, cap, e, by have := hc 0 _ rfl; simpa using this⟩
theorem num_get {w : World} {v : Value} {ps : List NumD} (h : NumAt w v ps) {i : Nat} {p : NumD} (hp : ps[i]? = some p) :
    ∃ b o cap, v = .slice (some ⟨b, o, none⟩) ps.length cap ∧ w.cell? ⟨b, o + i, none⟩ = some (.int .i64 p) := by
  obtain ⟨b, o, cap, e, hc⟩ := row_get 1 numC numC_len (by omega) h hp
  exact ⟨b, o, cap, e, by have := hc 0 _ rfl; simpa using this⟩
/-- What append onto a row of its own leaves. -/
theorem app_row {W w2 : World} {lo hi : Nat} {e : TypeId} {size : Nat} {v v' : Value} {n m : Nat} {xs ys : List Value} (ho : RowO W lo hi e size v n xs) (hown : w2.ownsRow lo e size v' m ys) (hg : W.grownBy w2 v.ownBlock) :
    RowO w2 lo w2.heap.size e size v' m ys ∧ (∀ b cs, Loc W b cs → b < lo → Loc w2 b cs) ∧ (∀ u, Kept u W → u.heap.size ≤ lo → Kept u w2) := by
  have hlo : ∀ g, v.ownBlock = some g → lo ≤ g := fun g h => (own_lt ho.1 h).1
  refine ⟨RowO.top hown, fun b cs h hb => h.grown hg (fun x => by have := hlo b x; omega), fun u hk hu => hk.grown hg (fun k h => .inl ?_)⟩
  have := hlo k h
  omega

theorem app_fig {W w2 : World} {lo hi : Nat} {v v' : Value} {n : Nat} {ps : List FigD} {t : FigD} (ho : FigO W lo hi v ps) (hn : ps.length = n) (hown : w2.ownsRow lo 56 1 v' (n + 1) (ps.flatMap figC ++ figC t)) (hg : W.grownBy w2 v.ownBlock) :
    FigO w2 lo w2.heap.size v' (ps ++ [t]) ∧ (∀ b cs, Loc W b cs → b < lo → Loc w2 b cs) ∧ (∀ u, Kept u W → u.heap.size ≤ lo → Kept u w2) := by
  subst hn
  have h := app_row ho hown hg
  refine ⟨?_, h.2⟩
  have := h.1
  unfold FigO
  rw [List.length_append, List.flatMap_append]
  simpa using this
theorem news_fig {W : World} {b : Nat} {t : FigD} (h : Loc W b (figC t)) : ∀ j u, (figC t)[j]? = some u → W.cell? ((⟨b, 0, none⟩ : Addr).add j) = some u := fun j u hu => by
  rw [Go.WideShapes.add_plain, Nat.zero_add]
  exact h.cell j hu

theorem app_num {W w2 : World} {lo hi : Nat} {v v' : Value} {n : Nat} {ps : List NumD} {t : NumD} (ho : NumO W lo hi v ps) (hn : ps.length = n) (hown : w2.ownsRow lo 3 1 v' (n + 1) (ps.flatMap numC ++ numC t)) (hg : W.grownBy w2 v.ownBlock) :
    NumO w2 lo w2.heap.size v' (ps ++ [t]) ∧ (∀ b cs, Loc W b cs → b < lo → Loc w2 b cs) ∧ (∀ u, Kept u W → u.heap.size ≤ lo → Kept u w2) := by
  subst hn
  have h := app_row ho hown hg
  refine ⟨?_, h.2⟩
  have := h.1
  unfold NumO
  rw [List.length_append, List.flatMap_append]
  simpa using this
theorem news_num {W : World} {b : Nat} {t : NumD} (h : Loc W b (numC t)) : ∀ j u, (numC t)[j]? = some u → W.cell? ((⟨b, 0, none⟩ : Addr).add j) = some u := fun j u hu => by
  rw [Go.WideShapes.add_plain, Nat.zero_add]
  exact h.cell j hu

theorem app_pair {W w2 : World} {lo hi : Nat} {v v' : Value} {n : Nat} {ps : List PairD} {t : PairD} (ho : PairO W lo hi v ps) (hn : ps.length = n) (hown : w2.ownsRow lo 70 2 v' (n + 1) (ps.flatMap pairC ++ pairC t)) (hg : W.grownBy w2 v.ownBlock) :
    PairO w2 lo w2.heap.size v' (ps ++ [t]) ∧ (∀ b cs, Loc W b cs → b < lo → Loc w2 b cs) ∧ (∀ u, Kept u W → u.heap.size ≤ lo → Kept u w2) := by
  subst hn
  have h := app_row ho hown hg
  refine ⟨?_, h.2⟩
  have := h.1
  unfold PairO
  rw [List.length_append, List.flatMap_append]
  simpa using this
theorem news_pair {W : World} {b : Nat} {t : PairD} (h : Loc W b (pairC t)) : ∀ j u, (pairC t)[j]? = some u → W.cell? ((⟨b, 0, none⟩ : Addr).add j) = some u := fun j u hu => by
  rw [Go.WideShapes.add_plain, Nat.zero_add]
  exact h.cell j hu

theorem app_meet {W w2 : World} {lo hi : Nat} {v v' : Value} {n : Nat} {ps : List MeetD} {t : MeetD} (ho : MeetO W lo hi v ps) (hn : ps.length = n) (hown : w2.ownsRow lo 84 3 v' (n + 1) (ps.flatMap meetC ++ meetC t)) (hg : W.grownBy w2 v.ownBlock) :
    MeetO w2 lo w2.heap.size v' (ps ++ [t]) ∧ (∀ b cs, Loc W b cs → b < lo → Loc w2 b cs) ∧ (∀ u, Kept u W → u.heap.size ≤ lo → Kept u w2) := by
  subst hn
  have h := app_row ho hown hg
  refine ⟨?_, h.2⟩
  have := h.1
  unfold MeetO
  rw [List.length_append, List.flatMap_append]
  simpa using this
theorem news_meet {W : World} {b : Nat} {t : MeetD} (h : Loc W b (meetC t)) : ∀ j u, (meetC t)[j]? = some u → W.cell? ((⟨b, 0, none⟩ : Addr).add j) = some u := fun j u hu => by
  rw [Go.WideShapes.add_plain, Nat.zero_add]
  exact h.cell j hu

theorem figV_iface (p : ShapeD) : ∃ t v, figV p = .iface t v := by
  unfold figV
  split
  · exact ⟨_, _, rfl⟩
  · exact ⟨_, _, rfl⟩
theorem one_fig (p : FigD) : ∀ u ∈ figC p, u.oneCell' = true := fun u hu => by
  simp [figC] at hu
  subst hu
  unfold figV
  split <;> rfl
theorem news1 {W : World} {b : Nat} {x : Value} (h : Loc W b [x]) : ∀ j u, [x][j]? = some u → W.cell? ((⟨b, 0, none⟩ : Addr).add j) = some u := fun j u hu => by
  rw [Go.WideShapes.add_plain, Nat.zero_add]
  exact h.cell j hu
theorem one_num (p : NumD) : ∀ u ∈ numC p, u.oneCell' = true := fun u hu => by
  simp [numC] at hu
  subst hu
  rfl
theorem one_pair (p : PairD) : ∀ u ∈ pairC p, u.oneCell' = true := fun u hu => by
  simp [pairC] at hu
  rcases hu with rfl | rfl <;> rfl
theorem one_meet (p : MeetD) : ∀ u ∈ meetC p, u.oneCell' = true := fun u hu => by
  simp [meetC] at hu
  rcases hu with rfl | rfl | rfl <;> rfl
theorem info_parts {P : Program} {t : TypeId} {z : Value} {s b : Nat} (h : (P.info? t).map (fun i => (i.zero, i.size, i.bytes)) = some (some z, s, b)) : ∃ i, P.info? t = some i ∧ i.zero = some z ∧ i.size = s ∧ i.bytes = b := by
  cases hi : P.info? t with
  | none => rw [hi] at h; cases h
  | some i => rw [hi] at h; simp at h; exact ⟨i, rfl, h.1, h.2.1, h.2.2⟩
theorem infoFig : (Try.prog.info? 56).map (fun i => (i.zero, i.size, i.bytes)) = some (some .nilIface, 1, 16) := by kernel_rfl
theorem infoNum : (Try.prog.info? 3).map (fun i => (i.zero, i.size, i.bytes)) = some (some (.int .i64 0), 1, 8) := by kernel_rfl
theorem infoPair : (Try.prog.info? 70).map (fun i => (i.zero, i.size, i.bytes)) = some (some (.agg #[.int .i64 0, .int .i64 0]), 2, 16) := by kernel_rfl
theorem infoMeet : (Try.prog.info? 84).map (fun i => (i.zero, i.size, i.bytes)) = some (some (.agg #[.int .i64 0, .int .i64 0, .int .i64 0]), 3, 24) := by kernel_rfl

end Go.Proofs.Ytfibikkbhbmfkaa

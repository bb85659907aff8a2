/-
  Assets by what they tell; GoodAssets and MakeOrder of both sides.
-/
import Derived.Test.YtmoaihhllfkmiaaSga21
import Derived.Test.YtmoaihhllfkmiaaAssetQ
import Derived.Test.YtmoaihhllfkmiaaAssetT
namespace Go.Proofs.Ytmoaihhllfkmiaa
open Go.ChangeShapes Go.WideShapes Go.ChangeAt Go.RowKit

set_option maxRecDepth 100000
set_option linter.unusedVariables false
set_option linter.unusedSimpArgs false

def canonA (d : AssetD) : AssetE := (d.1, (.slice none 0 0, d.2.1), (.slice none 0 0, d.2.2))
def mkA (ds : List AssetD) : List AssetE := ds.map canonA
theorem find_mapP {α β : Type} (f : α → β) (p : β → Bool) : ∀ l : List α, (l.map f).find? p = (l.find? (fun a => p (f a))).map f
  | [] => rfl
  | a :: t => by
    rw [List.map_cons, List.find?_cons, List.find?_cons]
    cases p (f a) with
    | true => rfl
    | false => exact find_mapP f p t
theorem ordN_canon (l : List AssetE) : ∀ k, ordN (mkA (l.map stripA)) k = ordN l k
  | 0 => rfl
  | k + 1 => by
    have ih := ordN_canon l k
    have hf : (mkA (l.map stripA)).find? (readyB (ordN l k)) = (l.find? (readyB (ordN l k))).map (fun p => canonA (stripA p)) := by
      unfold mkA
      rw [List.map_map]
      exact find_mapP (fun p => canonA (stripA p)) _ l
    show (match (mkA (l.map stripA)).find? (readyB (ordN (mkA (l.map stripA)) k)) with | none => ordN (mkA (l.map stripA)) k | some a => ordN (mkA (l.map stripA)) k ++ [a.1]) = (match l.find? (readyB (ordN l k)) with | none => ordN l k | some a => ordN l k ++ [a.1])
    rw [ih, hf]
    cases l.find? (readyB (ordN l k)) <;> rfl
theorem ordL_canon (l : List AssetE) : ordL (mkA (l.map stripA)) = ordL l := by
  unfold ordL
  rw [show (mkA (l.map stripA)).length = l.length by simp [mkA]]
  exact ordN_canon l _
theorem namesA_canon (l : List AssetE) : namesA (mkA (l.map stripA)) = namesA l := by simp [mkA, namesA, canonA, stripA]
theorem each_canon (l : List AssetE) : EachP (mkA (l.map stripA)) ↔ EachP l := by
  unfold EachP
  rw [namesA_canon]
  refine and_congr ⟨fun h d hd => h (canonA (stripA d)) (List.mem_map.2 ⟨stripA d, List.mem_map.2 ⟨d, hd, rfl⟩, rfl⟩), fun h d hd => ?_⟩ Iff.rfl
  obtain ⟨x, hx, rfl⟩ := List.mem_map.1 hd
  obtain ⟨y, hy, rfl⟩ := List.mem_map.1 hx
  exact h y hy
theorem assets_canon (l : List AssetE) : AssetsP (mkA (l.map stripA)) ↔ AssetsP l := by
  unfold AssetsP
  rw [each_canon, ordL_canon, show (mkA (l.map stripA)).length = l.length by simp [mkA]]
abbrev goodD (ds : List AssetD) : Bool := decide (AssetsP (mkA ds))
def ordD (ds : List AssetD) : List ByteArray := if AssetsP (mkA ds) then ordL (mkA ds) else []
theorem goodD_of (l : List AssetE) : goodD (l.map stripA) = decide (AssetsP l) := decide_eq_decide.2 (assets_canon l)
theorem ordD_of (l : List AssetE) : ordD (l.map stripA) = if AssetsP l then ordL l else [] := by
  unfold ordD
  by_cases h : AssetsP l
  · rw [if_pos h, if_pos ((assets_canon l).2 h), ordL_canon]
  · rw [if_neg h, if_neg (fun h' => h ((assets_canon l).1 h'))]
/-- Assets as they are told, whatever their lists' heads are. -/
def AssetsAt (w : World) (v : Value) (ds : List AssetD) : Prop := ∃ ps, AssetAt w v ps ∧ ps.map stripA = ds
def AssetsO (w : World) (lo hi : Nat) (v : Value) (ds : List AssetD) : Prop := ∃ ps, AssetO w lo hi v ps ∧ ps.map stripA = ds
theorem AssetsAt.kept {w w' : World} {v : Value} {ds : List AssetD} (h : AssetsAt w v ds) (k : Kept w w') : AssetsAt w' v ds := by obtain ⟨ps, h, e⟩ := h; exact ⟨ps, h.kept k, e⟩
theorem AssetsAt.form {w : World} {v : Value} {ds : List AssetD} (h : AssetsAt w v ds) : ∃ ao cap, v = .slice ao ds.length cap := by
  obtain ⟨ps, h, rfl⟩ := h
  obtain ⟨ao, cap, e⟩ := row_nil h.1
  exact ⟨ao, cap, by rw [List.length_map]; exact e⟩
theorem AssetsO.kept {w w' : World} {lo hi : Nat} {v : Value} {ds : List AssetD} (h : AssetsO w lo hi v ds) (k : Kept w w') : AssetsO w' lo hi v ds := by obtain ⟨ps, h, e⟩ := h; exact ⟨ps, h.kept k, e⟩
theorem AssetsO.but {w w' : World} {lo hi lo' hi' : Nat} {v : Value} {ds : List AssetD} (h : AssetsO w lo hi v ds) (k : But lo' hi' w w') (ho : hi ≤ lo' ∨ hi' ≤ lo) : AssetsO w' lo hi v ds := by obtain ⟨ps, h, e⟩ := h; exact ⟨ps, h.but k ho, e⟩
theorem AssetsO.mono {w : World} {lo hi lo' hi' : Nat} {v : Value} {ds : List AssetD} (h : AssetsO w lo hi v ds) (h1 : lo' ≤ lo) (h2 : hi ≤ hi') : AssetsO w lo' hi' v ds := by obtain ⟨ps, h, e⟩ := h; exact ⟨ps, h.mono h1 h2, e⟩
theorem AssetsO.at {w : World} {lo hi : Nat} {v : Value} {ds : List AssetD} (h : AssetsO w lo hi v ds) : AssetsAt w v ds := by obtain ⟨ps, h, e⟩ := h; exact ⟨ps, h.at, e⟩
theorem AssetsO.form {w : World} {lo hi : Nat} {v : Value} {ds : List AssetD} (h : AssetsO w lo hi v ds) : ∃ ao cap, v = .slice ao ds.length cap := h.at.form
/-- How large all may be. -/
def DSz (ds : List AssetD) : Prop := ds.length ≤ 1048576 ∧ ∀ d ∈ ds, d.1.size ≤ 1048576 ∧ d.2.1.length ≤ 1048576 ∧ (∀ q ∈ d.2.1, q.size ≤ 1048576) ∧ d.2.2.length ≤ 1048576
theorem DSz.asz {l : List AssetE} (h : DSz (l.map stripA)) : l.length ≤ 1048576 ∧ (∀ d ∈ l, ASz d) ∧ ∀ d ∈ l, d.2.1.2.length ≤ 1048576 ∧ d.2.2.2.length ≤ 1048576 := by
  have h1 := h.1
  rw [List.length_map] at h1
  exact ⟨h1, fun d hd => have h2 := h.2 _ (List.mem_map.2 ⟨d, hd, rfl⟩); ⟨h2.1, h2.2.1, h2.2.2.1⟩, fun d hd => have h2 := h.2 _ (List.mem_map.2 ⟨d, hd, rfl⟩); ⟨h2.2.1, h2.2.2.2⟩⟩
theorem toAssets (ds : List AssetD) (v : Value) (w : World) (hv : AssetsAt w v ds) (hz : DSz ds) :
    Calls Try.prog 18 #[v] w fun e w' => ∃ v', e = .returned v' ∧ AssetsO w' w.heap.size w'.heap.size v' ds ∧ Kept w w' := by
  obtain ⟨ps, h, rfl⟩ := hv
  refine (toAssetS ps v w h hz.asz.1 hz.asz.2.2).mono ?_
  rintro e w' ⟨v', ys, rfl, e1, o, k⟩
  exact ⟨v', rfl, ⟨ys, o, e1⟩, k⟩
theorem eqAssets (ds : List AssetD) (v v' : Value) (w : World) (hv : AssetsAt w v ds) (hv' : AssetsAt w v' ds) (hz : DSz ds) :
    Calls Try.prog 20 #[v, v'] w fun e w' => e = .returned (.bool true) ∧ Kept w w' := by
  obtain ⟨ps, h, rfl⟩ := hv
  obtain ⟨qs, h', e⟩ := hv'
  exact eqAssetS ps qs v v' w e.symm h h' (by have := hz.asz.1; omega) (fun p hp => by have := hz.asz.2.2 p hp; omega)
theorem sgaD (ds : List AssetD) (v : Value) (w : World) (hv : AssetsAt w v ds) (hz : DSz ds) :
    Calls Try.prog 17 #[v] w fun e w' => e = .returned (.bool (goodD ds)) ∧ Kept w w' := by
  obtain ⟨ps, h, rfl⟩ := hv
  rw [goodD_of]
  exact sga ps v w h hz.asz.1 hz.asz.2.1
theorem imoD (ds : List AssetD) (v : Value) (w : World) (hv : AssetsAt w v ds) (hz : DSz ds) :
    Calls Try.prog 10 #[v] w fun e w' => ∃ v', e = .returned (.tuple #[v', .bool (goodD ds)]) ∧ TxtO w' w.heap.size w'.heap.size v' (ordD ds) ∧ Kept w w' := by
  obtain ⟨ps, h, rfl⟩ := hv
  rw [goodD_of, ordD_of]
  exact imo ps v w h hz.asz.1 hz.asz.2.1
set_option maxHeartbeats 4000000 in
theorem igaD (ds : List AssetD) (v : Value) (w : World) (hv : AssetsAt w v ds) (hz : DSz ds) :
    Calls Try.prog 19 #[v] w fun e w' => e = .returned (.bool (goodD ds)) ∧ Kept w w' := by
  have HM := imoD ds v w hv hz
  obtain ⟨ao, cap, rfl⟩ := hv.form
  generalize goodD ds = R at *
  generalize ordD ds = O at *
  clear hv
  go_enter Try.func19, Try.ntmps19
  repeat (first | go_values | go_skip | go_guarded | go_step | go_upon)
  go_at_call 10
  refine HM.mono ?_
  rintro e w1 ⟨v1, rfl, o1, k1⟩
  obtain ⟨a1, c1, rfl⟩ := o1.form
  dsimp only
  repeat (first | go_values | go_skip | go_guarded | go_step | go_upon)
  go_ret
  exact ⟨rfl, k1⟩
set_option maxHeartbeats 4000000 in
theorem smoD (ds : List AssetD) (v : Value) (w : World) (hv : AssetsAt w v ds) (hz : DSz ds) :
    Calls Try.prog 11 #[v] w fun e w' => ∃ v', e = .returned (.tuple #[v', .bool (goodD ds)]) ∧ TxtO w' w.heap.size w'.heap.size v' (ordD ds) ∧ Kept w w' := by
  have HG := sgaD ds v w hv hz
  obtain ⟨ps, h, rfl⟩ := hv
  obtain ⟨ao, cap, rfl⟩ := row_nil h.1
  by_cases hp : AssetsP ps
  · have h30 : ps.length ≤ 30 := by have := hp.1.2.1; rwa [namesA_len] at this
    have h1 : goodD (ps.map stripA) = true := by rw [goodD_of]; exact decide_eq_true hp
    have h2 : ordD (ps.map stripA) = ordL ps := by rw [ordD_of, if_pos hp]
    have HO : Hid (∀ W, Kept w W → Calls Try.prog 39 #[.slice ao ps.length cap] W fun e w' => ∃ v', e = .returned v' ∧ TxtO w' W.heap.size w'.heap.size v' (ordL ps) ∧ Kept W w') := fun W k => sord ps _ W (h.kept k) (by omega) (fun d hd => (hz.asz.2.1 d hd).2.1)
    rw [h1] at HG ⊢
    rw [h2]
    clear h1 h2 h hz
    generalize ordL ps = O at *
    clear hp
    go_enter Try.func11, Try.ntmps11
    repeat (first | go_values | go_skip | go_guarded | go_step | go_upon)
    go_at_call 17
    refine HG.mono ?_
    rintro e w1 ⟨rfl, k1⟩
    dsimp only
    repeat (first | go_values | go_skip | go_guarded | go_step | go_upon)
    go_at_call 39
    refine (HO.out w1 k1).mono ?_
    rintro e w2 ⟨v2, rfl, o2, k2⟩
    obtain ⟨a2, c2, rfl⟩ := o2.form
    have hs := k1.size
    dsimp only
    repeat (first | go_values | go_skip | go_guarded | go_step | go_upon)
    go_ret2
    exact ⟨_, rfl, RowO.mono o2 hs (Nat.le_refl _), k1.trans k2⟩
  · have h1 : goodD (ps.map stripA) = false := by rw [goodD_of]; exact decide_eq_false hp
    have h2 : ordD (ps.map stripA) = [] := by rw [ordD_of, if_neg hp]
    rw [h1] at HG ⊢
    rw [h2]
    clear h1 h2 h hz hp
    go_enter Try.func11, Try.ntmps11
    repeat (first | go_values | go_skip | go_guarded | go_step | go_upon)
    go_at_call 17
    refine HG.mono ?_
    rintro e w1 ⟨rfl, k1⟩
    dsimp only
    repeat (first | go_values | go_skip | go_guarded | go_step | go_upon)
    go_ret2
    exact ⟨_, rfl, nil_txt _ _ _, k1⟩

end Go.Proofs.Ytmoaihhllfkmiaa

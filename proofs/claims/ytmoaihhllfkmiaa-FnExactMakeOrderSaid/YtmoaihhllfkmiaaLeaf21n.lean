/-
  Small tests on names; the order in which assets are made.
-/
import Derived.Test.YtmoaihhllfkmiaaAsset
import Derived.Test.YtmoaihhllfkmiaaLess
import Derived.Test.YtmoaihhllfkmiaaName
import Derived.Test.YtmoaihhllfkmiaaBase
namespace Go.Proofs.Ytmoaihhllfkmiaa
open Go.ChangeShapes Go.WideShapes Go.ChangeAt Go.RowKit

set_option maxRecDepth 100000
set_option linter.unusedVariables false
set_option linter.unusedSimpArgs false

theorem ret_boolG {a b : Bool} (h : a = b) : Ending.returned (.bool a) = .returned (.bool b) := by rw [h]
theorem ret_intG {a b : Int} (h : a = b) : Ending.returned (.int .i64 a) = .returned (.int .i64 b) := by rw [h]
theorem all_more {P : Nat → Prop} {k : Nat} (h : ∀ j, j < k → P j) (hk : P k) : ∀ j, j < k + 1 → P j := fun j hj => by
  by_cases e : j = k
  · subst e; exact hk
  · exact h j (by omega)
theorem name_pos {s : ByteArray} (h : nameB s = true) : 1 ≤ s.size := ((nameB_iff s).1 h).1
/-- Whether a name stands behind the one ahead of it. -/
def beforeN (l : List ByteArray) (j : Nat) (s : ByteArray) : Bool := match j with
  | 0 => true
  | j' + 1 => match l[j']? with
    | none => true
    | some q => Op.bytesLess q.toList s.toList
def keyB (l : List ByteArray) (j : Nat) : Bool := match l[j]? with
  | none => true
  | some d => nameB d && beforeN l j d
abbrev KeyOk (l : List ByteArray) (j : Nat) : Prop := keyB l j = true
abbrev KeysP (m : Nat) (l : List ByteArray) : Prop := l.length ≤ m ∧ ∀ j, j < l.length → KeyOk l j
theorem key_eq {l : List ByteArray} {j : Nat} {d : ByteArray} (h : l[j]? = some d) : keyB l j = (nameB d && beforeN l j d) := by
  unfold keyB
  rw [h]
theorem before_first {l : List ByteArray} {j : Nat} {s : ByteArray} (h : j = 0) : beforeN l j s = true := by subst h; rfl
theorem before_next {l : List ByteArray} {j j' : Nat} {s q : ByteArray} (h : j = j' + 1) (hq : l[j']? = some q) : beforeN l j s = Op.bytesLess q.toList s.toList := by
  subst h
  simp only [beforeN, hq]
theorem key_no {l : List ByteArray} {j : Nat} {d : ByteArray} (h : l[j]? = some d) (hn : nameB d = false) : ¬ KeyOk l j := by
  unfold KeyOk
  rw [key_eq h, hn]
  simp
theorem key_next {l : List ByteArray} {j j' : Nat} {d q : ByteArray} (hp : l[j]? = some d) (h1 : nameB d = true) (hj : j = j' + 1) (hq : l[j']? = some q) : KeyOk l j ↔ Op.bytesLess q.toList d.toList = true := by
  unfold KeyOk
  rw [key_eq hp, h1, before_next hj hq]
  simp
theorem key_first {l : List ByteArray} {j : Nat} {d : ByteArray} (hp : l[j]? = some d) (h1 : nameB d = true) (hj : ¬ 0 < j) : KeyOk l j := by
  unfold KeyOk
  rw [key_eq hp, h1, before_first (by omega)]
  rfl
theorem key_iff {l : List ByteArray} {k : Nat} {p s : ByteArray} (hp : l[k]? = some p) (h0 : k = 0 → s = ⟨#[]⟩) (hq : ∀ q, 0 < k → l[k - 1]? = some q → s = q) :
    KeyOk l k ↔ nameB p = true ∧ Op.bytesLess p.toList s.toList = false ∧ (p.toList == s.toList) = false := by
  by_cases hn : nameB p = true
  · by_cases e : k = 0
    · have hs := h0 e
      subst hs
      have h1 : (⟨#[]⟩ : ByteArray).toList = [] := by rw [ByteArray.toList_eq]
      have h2 : Op.bytesLess p.toList (⟨#[]⟩ : ByteArray).toList = false := by rw [h1]; cases p.toList <;> rfl
      have h3 : (p.toList == (⟨#[]⟩ : ByteArray).toList) = false := by
        rw [beq_eq_false_iff_ne]
        intro e2
        have := toList_inj e2
        have h1 := name_pos hn
        rw [this] at h1
        simp [ByteArray.size] at h1
      exact ⟨fun _ => ⟨hn, h2, h3⟩, fun _ => key_first hp hn (by omega)⟩
    · have hk : k < l.length := (List.getElem?_eq_some_iff.1 hp).1
      obtain ⟨q, hqq⟩ : ∃ q, l[k - 1]? = some q := ⟨_, List.getElem?_eq_getElem (by omega)⟩
      have hs := hq q (by omega) hqq
      subst hs
      rw [key_next hp hn (show k = k - 1 + 1 by omega) hqq]
      constructor
      · intro h
        refine ⟨hn, bl_asym _ _ h, ?_⟩
        rw [beq_eq_false_iff_ne]
        intro e2
        rw [e2, bl_irr] at h
        cases h
      · rintro ⟨_, h1, h2⟩
        exact bl_tri _ _ h1 (by rwa [beq_eq_false_iff_ne] at h2)
  · refine ⟨fun h => absurd h (key_no hp (by simpa using hn)), fun h => absurd h.1 hn⟩
theorem sInG (x lo hi : Int) (w : World) : Calls Try.prog 52 #[.int .i64 x, .int .i64 lo, .int .i64 hi] w fun e w' => e = .returned (.bool (decide (lo ≤ x ∧ x ≤ hi))) ∧ w' = w := by
  go_enter Try.func52, Try.ntmps52
  go_wp2
  all_goals
    go_ret
    exact ⟨ret_bool (by first | (rw [Bool.eq_iff_iff]; simp; omega) | (simp; omega)), rfl⟩

def namesA (l : List AssetE) : List ByteArray := l.map fun d => d.1
theorem namesA_len (l : List AssetE) : (namesA l).length = l.length := by simp [namesA]
theorem namesA_get {l : List AssetE} {j : Nat} {d : AssetE} (h : l[j]? = some d) : (namesA l)[j]? = some d.1 := by simp [namesA, h]
theorem namesA_snoc (l : List AssetE) (d : AssetE) : namesA (l ++ [d]) = namesA l ++ [d.1] := by simp [namesA]
theorem toList_injB {a b : ByteArray} (h : a.toList = b.toList) : a = b := toList_inj h
/-- Whether a text is among texts. -/
def hasB (l : List ByteArray) (s : ByteArray) : Bool := l.any fun q => q.toList == s.toList
theorem has_iff {l : List ByteArray} {s : ByteArray} : hasB l s = true ↔ s ∈ l := by
  unfold hasB
  rw [List.any_eq_true]
  constructor
  · rintro ⟨q, hq, h⟩
    rw [beq_iff_eq] at h
    rw [← toList_inj h]
    exact hq
  · exact fun h => ⟨s, h, by simp⟩
theorem has_yes {l : List ByteArray} {s q : ByteArray} {k : Nat} (h : l[k]? = some q) (he : (q.toList == s.toList) = true) : hasB l s = true := by
  unfold hasB
  rw [List.any_eq_true]
  exact ⟨q, List.mem_of_getElem? h, he⟩
theorem has_no {l : List ByteArray} {s : ByteArray} (h : ∀ (k : Nat) (q : ByteArray), l[k]? = some q → (q.toList == s.toList) = false) : hasB l s = false := by
  unfold hasB
  rw [List.any_eq_false]
  intro q hq
  obtain ⟨k, hk⟩ := List.mem_iff_getElem?.1 hq
  rw [h k q hk]
  simp
/-- What may be made next. -/
def readyB (out : List ByteArray) (a : AssetE) : Bool := !hasB out a.1 && a.2.1.2.all fun n => hasB out n
def ordN (l : List AssetE) : Nat → List ByteArray
  | 0 => []
  | k + 1 => match l.find? (readyB (ordN l k)) with
    | none => ordN l k
    | some a => ordN l k ++ [a.1]
def ordL (l : List AssetE) : List ByteArray := ordN l l.length
theorem ord_none {l : List AssetE} {k : Nat} (h : l.find? (readyB (ordN l k)) = none) : ordN l (k + 1) = ordN l k := by simp only [ordN, h]
theorem ord_some {l : List AssetE} {k : Nat} {a : AssetE} (h : l.find? (readyB (ordN l k)) = some a) : ordN l (k + 1) = ordN l k ++ [a.1] := by simp only [ordN, h]
theorem ord_stop {l : List AssetE} {k : Nat} (h : l.find? (readyB (ordN l k)) = none) : ∀ m, ordN l (k + m) = ordN l k
  | 0 => rfl
  | m + 1 => by
    have e := ord_stop h m
    rw [← Nat.add_assoc, ord_none (by rw [e]; exact h), e]
theorem nodup_le {α : Type} [DecidableEq α] : ∀ (a b : List α), a.Nodup → (∀ x ∈ a, x ∈ b) → a.length ≤ b.length
  | [], b, _, _ => Nat.zero_le _
  | x :: t, b, hn, hs => by
    rw [List.nodup_cons] at hn
    have hx : x ∈ b := hs x (List.mem_cons_self ..)
    have h1 : (b.erase x).length = b.length - 1 := List.length_erase_of_mem hx
    have h2 := nodup_le t (b.erase x) hn.2 (fun y hy => by
      rw [List.mem_erase_of_ne (fun e => hn.1 (by rw [← e]; exact hy))]
      exact hs y (List.mem_cons_of_mem _ hy))
    have h3 : 0 < b.length := List.length_pos_of_mem hx
    simp only [List.length_cons]
    omega
/-- What the order holds so far. -/
theorem ord_inv (l : List AssetE) : ∀ k, (ordN l k).length ≤ k ∧ ((ordN l k).length < k → l.find? (readyB (ordN l k)) = none) ∧ (ordN l k).Nodup ∧ ∀ x ∈ ordN l k, ∃ a ∈ l, a.1 = x ∧ ∀ n ∈ a.2.1.2, n ∈ ordN l k
  | 0 => ⟨by simp [ordN], fun h => by omega, by simp [ordN], fun x hx => by simp [ordN] at hx⟩
  | k + 1 => by
    obtain ⟨h1, h2, h3, h4⟩ := ord_inv l k
    cases h : l.find? (readyB (ordN l k)) with
    | none =>
      rw [ord_none h]
      exact ⟨by omega, fun _ => h, h3, h4⟩
    | some a =>
      have hk : (ordN l k).length = k := by
        rcases Nat.lt_or_ge (ordN l k).length k with hlt | hge
        · rw [h2 hlt] at h; cases h
        · omega
      have hr := List.find?_some h
      have hm := List.mem_of_find?_eq_some h
      unfold readyB at hr
      rw [Bool.and_eq_true, List.all_eq_true] at hr
      have hna : a.1 ∉ ordN l k := fun e => by rw [has_iff.2 e] at hr; simp at hr
      rw [ord_some h]
      refine ⟨by rw [List.length_append, hk]; simp, fun hlt => by rw [List.length_append, hk] at hlt; simp at hlt, ?_, fun x hx => ?_⟩
      · rw [List.nodup_append]
        refine ⟨h3, by simp, fun x hx y hy => ?_⟩
        simp at hy
        subst hy
        exact fun e => hna (by rw [← e]; exact hx)
      · rcases List.mem_append.1 hx with hx | hx
        · obtain ⟨b, hb, e, hn⟩ := h4 x hx
          exact ⟨b, hb, e, fun n hn' => List.mem_append_left _ (hn n hn')⟩
        · simp at hx
          exact ⟨a, hm, hx.symm, fun n hn' => List.mem_append_left _ (has_iff.1 (hr.2 n hn'))⟩
theorem ord_len (l : List AssetE) (k : Nat) : (ordN l k).length ≤ l.length := by
  obtain ⟨_, _, h3, h4⟩ := ord_inv l k
  rw [← namesA_len l]
  refine nodup_le _ _ h3 fun x hx => ?_
  obtain ⟨a, ha, e, _⟩ := h4 x hx
  rw [← e]
  exact List.mem_map.2 ⟨a, ha, rfl⟩
theorem ord_end {l : List AssetE} : l.find? (readyB (ordL l)) = none := by
  have h := ord_inv l (l.length + 1)
  have h2 := ord_len l (l.length + 1)
  cases hf : l.find? (readyB (ordL l)) with
  | none => rfl
  | some a =>
    have e : ordN l (l.length + 1) = ordL l ++ [a.1] := ord_some hf
    have h3 := h.2.1 (by omega)
    have h4 := ord_inv l l.length
    rcases Nat.lt_or_ge (ordL l).length l.length with hlt | hge
    · have := h4.2.1 hlt
      rw [show ordN l l.length = ordL l from rfl, hf] at this
      cases this
    · rw [e, List.length_append] at h2
      simp at h2
      omega
/-- Assets each by itself. -/
abbrev EachP (l : List AssetE) : Prop := (∀ d ∈ l, KeysP 10 d.2.1.2 ∧ d.2.2.2.length ≤ 400) ∧ KeysP 30 (namesA l)
abbrev AssetsP (l : List AssetE) : Prop := EachP l ∧ (ordL l).length = l.length
theorem keys_up {m : Nat} {l : List ByteArray} (h : KeysP m l) : ∀ (n j : Nat) (q r : ByteArray), l[j]? = some q → l[j + (n + 1)]? = some r → Op.bytesLess q.toList r.toList = true
  | 0, j, q, r, hq, hr => by
    have h1 := h.2 (j + 1) (List.getElem?_eq_some_iff.1 hr).1
    unfold KeyOk at h1
    rw [key_eq hr, before_next rfl hq] at h1
    simp at h1
    exact h1.2
  | n + 1, j, q, r, hq, hr => by
    have hl := (List.getElem?_eq_some_iff.1 hr).1
    obtain ⟨s, hs⟩ : ∃ s, l[j + (n + 1)]? = some s := ⟨_, List.getElem?_eq_getElem (by omega)⟩
    exact bl_trans _ _ _ (keys_up h n j q s hq hs) (keys_up h 0 (j + (n + 1)) s r hs hr)
theorem keys_nodup {m : Nat} {l : List ByteArray} (h : KeysP m l) : l.Nodup := by
  unfold List.Nodup
  rw [List.pairwise_iff_getElem]
  intro i j hi hj hij e
  have h1 := keys_up h (j - i - 1) i l[i] l[j] (List.getElem?_eq_getElem hi) (by rw [show i + (j - i - 1 + 1) = j by omega]; exact List.getElem?_eq_getElem hj)
  rw [e, bl_irr] at h1
  cases h1
/-- Where all are made, all that is needed is there. -/
theorem need_there {l : List AssetE} (h : AssetsP l) {a : AssetE} (ha : a ∈ l) {n : ByteArray} (hn : n ∈ a.2.1.2) : n ∈ namesA l := by
  obtain ⟨⟨_, hk⟩, hl⟩ := h
  have hnd := keys_nodup hk
  obtain ⟨_, _, h3, h4⟩ := ord_inv l l.length
  have hsub : ∀ x ∈ ordL l, x ∈ namesA l := fun x hx => by
    obtain ⟨b, hb, e, _⟩ := h4 x hx
    rw [← e]
    exact List.mem_map.2 ⟨b, hb, rfl⟩
  have hall : a.1 ∈ ordL l := Classical.byContradiction fun hna => by
    have := nodup_le (a.1 :: ordL l) (namesA l) (List.nodup_cons.2 ⟨hna, h3⟩) (fun x hx => by
      rcases List.mem_cons.1 hx with rfl | hx
      · exact List.mem_map.2 ⟨a, ha, rfl⟩
      · exact hsub x hx)
    rw [namesA_len, List.length_cons, hl] at this
    omega
  obtain ⟨b, hb, e, hbn⟩ := h4 _ hall
  have hab : b = a := by
    obtain ⟨i, hi⟩ := List.mem_iff_getElem?.1 ha
    obtain ⟨j, hj⟩ := List.mem_iff_getElem?.1 hb
    have e1 := namesA_get hi
    have e2 := namesA_get hj
    rw [e] at e2
    have hij : i = j := (List.getElem?_inj (by rw [namesA_len]; exact (List.getElem?_eq_some_iff.1 hi).1) hnd).1 (by rw [e1, e2])
    subst hij
    rw [hi] at hj
    exact (Option.some.inj hj).symm
  subst hab
  exact hsub n (hbn n hn)

end Go.Proofs.Ytmoaihhllfkmiaa

/-
  Lists of lists of things: how they lie in memory, and what they weigh.
-/
import Derived.Test.YtaadlhcpgjibeaaDoorThingT
namespace Go.Proofs.YtaadlhcpgjibeaaDoor
open Go.ChangeShapes Go.WideShapes Go.ChangeAt Go.RowKit

abbrev ThingsE := Value × List ThingD
def thingsC (r : ThingsE) : List Value := [r.1]
theorem thingsC_len (r : ThingsE) : (thingsC r).length = 1 := rfl
def things0 : ThingsE := (.slice none 0 0, [])
def ThingsAt (w : World) (v : Value) (rs : List ThingsE) : Prop := RowAt w v rs.length (rs.flatMap thingsC) ∧ ∀ r ∈ rs, ThingAt w r.1 r.2
theorem ThingsAt.kept {w w' : World} {v : Value} {rs : List ThingsE} (h : ThingsAt w v rs) (k : Kept w w') : ThingsAt w' v rs := ⟨RowAt.kept h.1 k, fun r hr => (h.2 r hr).kept k⟩
theorem things_get {w : World} {v : Value} {rs : List ThingsE} (h : ThingsAt w v rs) {i : Nat} {r : ThingsE} (hr : rs[i]? = some r) :
    ∃ b o cap, v = .slice (some ⟨b, o, none⟩) rs.length cap ∧ w.cell? ⟨b, o + i, none⟩ = some r.1 ∧ ThingAt w r.1 r.2 := by
  obtain ⟨b, o, cap, e, hc⟩ := row_get 1 thingsC thingsC_len (by omega) h.1 hr
  exact ⟨b, o, cap, e, by have := hc 0 _ rfl; simpa using this, h.2 r (List.mem_of_getElem? hr)⟩
/-- A row of its own, whose lists have blocks of their own. -/
structure ThingsO (w : World) (lo hi : Nat) (v : Value) (rs : List ThingsE) : Prop where
  row : RowO w lo hi 31 1 v rs.length (rs.flatMap thingsC)
  inn : ∀ (i : Nat) (r : ThingsE), rs[i]? = some r → ThingO w lo hi r.1 r.2
  apart : ∀ (i j : Nat) (r r' : ThingsE), i ≠ j → rs[i]? = some r → rs[j]? = some r' → Ap r.1 r'.1
theorem ThingsO.but {w w' : World} {lo hi lo' hi' : Nat} {v : Value} {rs : List ThingsE} (h : ThingsO w lo hi v rs) (k : But lo' hi' w w') (ho : hi ≤ lo' ∨ hi' ≤ lo) : ThingsO w' lo hi v rs := ⟨RowO.but h.row k ho, fun i r hr => (h.inn i r hr).but k ho, h.apart⟩
theorem ThingsO.kept {w w' : World} {lo hi : Nat} {v : Value} {rs : List ThingsE} (h : ThingsO w lo hi v rs) (k : Kept w w') : ThingsO w' lo hi v rs := h.but k (by omega)
theorem ThingsO.mono {w : World} {lo hi lo' hi' : Nat} {v : Value} {rs : List ThingsE} (h : ThingsO w lo hi v rs) (h1 : lo' ≤ lo) (h2 : hi ≤ hi') : ThingsO w lo' hi' v rs := ⟨RowO.mono h.row h1 h2, fun i r hr => (h.inn i r hr).mono h1 h2, h.apart⟩
theorem ThingsO.low {w : World} {lo hi : Nat} {v : Value} {rs : List ThingsE} (h : ThingsO w lo hi v rs) : ThingsO w lo w.heap.size v rs := ⟨RowO.low h.row, fun i r hr => (h.inn i r hr).low, h.apart⟩
theorem ThingsO.at {w : World} {lo hi : Nat} {v : Value} {rs : List ThingsE} (h : ThingsO w lo hi v rs) : ThingsAt w v rs := ⟨own_row h.row.1, fun r hr => by
  obtain ⟨i, hi⟩ := List.mem_iff_getElem?.1 hr
  exact (h.inn i r hi).at⟩
theorem ThingsO.form {w : World} {lo hi : Nat} {v : Value} {rs : List ThingsE} (h : ThingsO w lo hi v rs) : ∃ ao cap, v = .slice ao rs.length cap := by
  obtain ⟨ao, cap, e, _⟩ := own_form h.row.1
  exact ⟨ao, cap, e⟩
theorem things_len {ps qs : List ThingsE} (h : ps.map Prod.snd = qs.map Prod.snd) : ps.length = qs.length := by have := congrArg List.length h; simpa using this
theorem things_same {ps qs : List ThingsE} (h : ps.map Prod.snd = qs.map Prod.snd) {i : Nat} {p q : ThingsE} (hp : ps[i]? = some p) (hq : qs[i]? = some q) : p.2 = q.2 := by
  have := congrArg (fun l => l[i]?) h
  simpa [hp, hq] using this

def thingsSum (ps : List ThingsE) : Nat := (ps.map fun p => p.2.length).sum
def thingsCost (ps : List ThingsE) : Nat := ps.length + thingsSum ps
theorem thingsSum_snoc (l : List ThingsE) (p : ThingsE) : thingsSum (l ++ [p]) = thingsSum l + p.2.length := by simp [thingsSum]
theorem thingsSum_take (l : List ThingsE) (k : Nat) : thingsSum (l.take k) ≤ thingsSum l := by
  have h := congrArg thingsSum (List.take_append_drop k l)
  have h2 : ∀ a b : List ThingsE, thingsSum (a ++ b) = thingsSum a + thingsSum b := fun a b => by simp [thingsSum]
  rw [h2] at h
  omega
theorem thingsSum_le {l : List ThingsE} {k : Nat} {p : ThingsE} (h : l[k]? = some p) : p.2.length ≤ thingsSum l := by
  have := thingsSum_take l (k + 1)
  rw [take_snoc h, thingsSum_snoc] at this
  omega
def ThingsFit (ps : List ThingsE) : Prop := ∀ p ∈ ps, p.2.length ≤ 9223372036854775807

set_option maxHeartbeats 2000000 in
theorem szThingsS (ps : List ThingsE) (v : Value) (left : Int) (w : World) (hv : ThingsAt w v ps) (hl : 0 ≤ left) (hm : left ≤ 1048576) (hn : ps.length ≤ 9223372036854775807) (hs : ThingsFit ps) :
    Calls Tryd.prog 33 #[v, .int .i64 left] w fun e w' => e = .returned (.int .i64 (leftOf left (thingsCost ps))) ∧ Kept w w' := by
  obtain ⟨ao, cap, hsl⟩ := row_nil hv.1
  subst hsl
  by_cases hc : left < (ps.length : Int)
  · go_enter Tryd.func33, Tryd.ntmps33
    go_wp2
    go_ret
    exact ⟨ret_int (leftOf_no (by unfold thingsCost; omega)).symm, But.refl _ _ _⟩
  · have hc' : (ps.length : Int) ≤ left := by omega
    have hc2 : decide (left - (ps.length : Int) < 0) = false := by simp; omega
    go_enter Tryd.func33, Tryd.ntmps33
    go_wp2
    go_loopw [1, 5] (fun l i wr => ∃ (k : Nat) (c : Int), k ≤ ps.length ∧ i = .int .i64 k ∧ l = .int .i64 c ∧ c = left - ps.length - thingsSum (ps.take k) ∧ 0 ≤ c ∧ Kept w wr) (fun l i _ => ps.length - (intOf i).toNat)
    case atStart => exact ⟨0, _, by omega, rfl, rfl, by simp [thingsSum], by omega, But.refl _ _ _⟩
    case round =>
      obtain ⟨k, c, hk, rfl, rfl, hcv, h0, hkp⟩ := hrel
      have HC : Hid (c = left - ps.length - thingsSum (ps.take k)) := hcv
      clear hcv
      by_cases hlt : k < ps.length
      · obtain ⟨p, hp⟩ : ∃ p, ps[k]? = some p := ⟨_, List.getElem?_eq_getElem hlt⟩
        obtain ⟨b, o, cap', e, c0, hpa⟩ := things_get (hv.kept hkp) hp
        cases e
        have hcm : c ≤ 1048576 := by have := HC.out; omega
        have hps := hs p (List.mem_of_getElem? hp)
        have hsn := thingsSum_snoc (ps.take k) p
        rw [← take_snoc hp] at hsn
        have hst := thingsSum_take ps (k + 1)
        have HS : Hid (thingsSum (ps.take (k + 1)) = thingsSum (ps.take k) + p.2.length ∧ thingsSum (ps.take (k + 1)) ≤ thingsSum ps) := ⟨hsn, hst⟩
        clear hsn hst
        obtain ⟨y, l⟩ := p
        dsimp only at hps hpa c0
        obtain ⟨ao3, cap3, hsl3⟩ := row_nil hpa
        subst hsl3
        have HP : Hid (ThingAt wr (.slice ao3 l.length cap3) l) := hpa
        clear hpa
        by_cases hle : (l.length : Int) ≤ c
        · have hd : decide (c - (l.length : Int) < 0) = false := by simp; omega
          go_wp2_with (go_at_call 18; refine (szThingS l _ _ _ HP.out h0 hcm hps).mono ?_; rw [leftOf_yes hle]; rintro e w' ⟨rfl, hk2⟩)
          have hS' := HS.out
          exact ⟨⟨k + 1, _, hlt, by go_num, rfl, by have := HC.out; omega, by omega, hkp.trans hk2⟩, by simp [intOf]; omega⟩
        · go_wp2_with (go_at_call 18; refine (szThingS l _ _ _ HP.out h0 hcm hps).mono ?_; rw [leftOf_no (by omega)]; rintro e w' ⟨rfl, hk2⟩)
          have hS' := HS.out
          go_ret
          exact ⟨ret_int (leftOf_no (by have := HC.out; unfold thingsCost; omega)).symm, hkp.trans hk2⟩
      · have hke : k = ps.length := by omega
        subst hke
        go_wp2
        go_ret
        have := HC.out
        rw [List.take_length] at this
        exact ⟨ret_int (by rw [leftOf_yes (by unfold thingsCost; omega)]; unfold thingsCost; omega), hkp⟩

end Go.Proofs.YtaadlhcpgjibeaaDoor

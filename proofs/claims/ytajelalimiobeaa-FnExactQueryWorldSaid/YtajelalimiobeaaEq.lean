/-
  What the functions answer that hold two worlds against each other: that alike ones are alike.
-/
import Derived.Test.YtajelalimiobeaaRows
import Derived.Test.YtajelalimiobeaaData
namespace Go.Proofs.Ytajelalimiobeaa
open Go.ChangeShapes Go.WideShapes Go.ChangeAt Go.RowKit

theorem eqPart (s : ByteArray) (a b : Int) (w : World) :
    Calls Try.prog 137 #[.agg #[.string s, .int .i64 a, .int .i64 b], .agg #[.string s, .int .i64 a, .int .i64 b]] w fun e w' => e = .returned (.bool true) ∧ Kept w w' := by
  go_enter Try.func137, Try.ntmps137
  go_wp2
  go_ret
  exact ⟨rfl, ((But.refl _ _ _).alloc _).alloc _⟩

set_option maxHeartbeats 1000000 in
theorem eqPartS (ps : List PD) (v v' : Value) (w : World) (hv : PartsAt w v ps) (hv' : PartsAt w v' ps) (hn : ps.length ≤ 9000000000000000000) :
    Calls Try.prog 118 #[v, v'] w fun e w' => e = .returned (.bool true) ∧ Kept w w' := by
  obtain ⟨ao, cap, hsl⟩ := row_nil hv
  subst hsl
  obtain ⟨ao', cap', hsl⟩ := row_nil hv'
  subst hsl
  go_enter Try.func118, Try.ntmps118
  go_wp2
  go_loopw [5] (fun i wr => ∃ (k : Nat), k ≤ ps.length ∧ i = .int .i64 k ∧ Kept w wr) (fun i _ => ps.length - (intOf i).toNat)
  case atStart => exact ⟨0, by omega, rfl, But.refl _ _ _⟩
  case round =>
    obtain ⟨k, hk, rfl, hkp⟩ := hrel
    by_cases hlt : k < ps.length
    · obtain ⟨p, hp⟩ : ∃ p, ps[k]? = some p := ⟨_, List.getElem?_eq_getElem hlt⟩
      obtain ⟨b, o, cap1, e, c0, c1, c2⟩ := parts_get (hv.kept hkp) hp
      cases e
      obtain ⟨b', o', cap1', e, c0', c1', c2'⟩ := parts_get (hv'.kept hkp) hp
      cases e
      have z1 : (0 : Int) ≤ (k : Int) := by omega
      have z2 : (k : Int) < (ps.length : Int) := by omega
      have HK : Hid _ := hkp
      clear hkp
      go_wp2_with fail
      go_region_held3 (fun w' => w'.cell? ⟨b, o + k * 3, none⟩ = some (.string p.1) ∧ w'.cell? ⟨b, o + k * 3 + 1, none⟩ = some (.int .i64 p.2.1) ∧ w'.cell? ⟨b, o + k * 3 + 2, none⟩ = some (.int .i64 p.2.2) ∧ w'.cell? ⟨b', o' + k * 3, none⟩ = some (.string p.1) ∧ w'.cell? ⟨b', o' + k * 3 + 1, none⟩ = some (.int .i64 p.2.1) ∧ w'.cell? ⟨b', o' + k * 3 + 2, none⟩ = some (.int .i64 p.2.2)) (simp [go_sem, *])
        (first | (go_at_call 137; refine (eqPart _ _ _ _).mono ?_; rintro e w' ⟨rfl, hk2⟩; have c0 := Kept.cell hk2 c0; have c1 := Kept.cell hk2 c1; have c2 := Kept.cell hk2 c2; have c0' := Kept.cell hk2 c0'; have c1' := Kept.cell hk2 c1'; have c2' := Kept.cell hk2 c2'))
      go_wp2
      exact ⟨⟨k + 1, hlt, by go_num, HK.out.trans ((But.refl _ _ wr).drew.trans hk2)⟩, by simp [intOf]; omega⟩
    · have hke : k = ps.length := by omega
      subst hke
      go_wp2
      go_ret
      exact ⟨rfl, hkp⟩

theorem eqEntity (ps : List PD) (id : Int) (v v' : Value) (w : World) (hv : PartsAt w v ps) (hv' : PartsAt w v' ps) (hn : ps.length ≤ 9000000000000000000) :
    Calls Try.prog 97 #[.agg #[.int .i64 id, v], .agg #[.int .i64 id, v']] w fun e w' => e = .returned (.bool true) ∧ Kept w w' := by
  obtain ⟨ao, cap, hsl⟩ := row_nil hv
  subst hsl
  obtain ⟨ao', cap', hsl⟩ := row_nil hv'
  subst hsl
  have K : ∀ o o', Kept w ((w.alloc o).alloc o') := fun o o' => ((But.refl _ _ _).alloc _).alloc _
  go_enter Try.func97, Try.ntmps97
  go_wp2_with (go_at_call 118; refine (eqPartS ps _ _ _ (hv.kept (K _ _)) (hv'.kept (K _ _)) hn).mono ?_; rintro e w' ⟨rfl, hk⟩)
  go_ret
  exact ⟨rfl, (K _ _).trans hk⟩

set_option maxHeartbeats 1000000 in
theorem eqEntityS (zs zs' : List PE) (v v' : Value) (w : World) (hv : EntsAt w v zs) (hv' : EntsAt w v' zs') (hs : zs'.map strip = zs.map strip) (hn : zs.length ≤ 9000000000000000000) (hp : ∀ z ∈ zs, z.2.2.length ≤ 9000000000000000000) :
    Calls Try.prog 65 #[v, v'] w fun e w' => e = .returned (.bool true) ∧ Kept w w' := by
  obtain ⟨ao, cap, hsl⟩ := row_nil hv.1
  subst hsl
  obtain ⟨ao', cap', hsl⟩ := row_nil hv'.1
  subst hsl
  have hlen : zs'.length = zs.length := by have := congrArg List.length hs; simpa using this
  have HS : Hid (zs'.map strip = zs.map strip) := hs
  clear hs
  rw [hlen] at hv' ⊢
  go_enter Try.func65, Try.ntmps65
  go_wp2
  go_loopw [5] (fun i wr => ∃ (k : Nat), k ≤ zs.length ∧ i = .int .i64 k ∧ Kept w wr) (fun i _ => zs.length - (intOf i).toNat)
  case atStart => exact ⟨0, by omega, rfl, But.refl _ _ _⟩
  case round =>
    obtain ⟨k, hk, rfl, hkp⟩ := hrel
    by_cases hlt : k < zs.length
    · obtain ⟨z, hz⟩ : ∃ z, zs[k]? = some z := ⟨_, List.getElem?_eq_getElem hlt⟩
      obtain ⟨y, hy⟩ : ∃ z, zs'[k]? = some z := ⟨_, List.getElem?_eq_getElem (by omega)⟩
      have hyz : strip y = strip z := by
        have := congrArg (fun l => l[k]?) HS.out
        simpa [hz, hy] using this
      have hy1 : y.1 = z.1 := congrArg (fun a : ED => a.1) hyz
      have hy2 : y.2.2 = z.2.2 := congrArg (fun a : ED => a.2) hyz
      have hpl := hp z (List.mem_of_getElem? hz)
      obtain ⟨b, o, cap1, ao1, n1, cap2, e, ez, c0, c1, en, hpa⟩ := ents_get (hv.kept hkp) hz
      cases e
      subst en
      obtain ⟨b', o', cap1', ao1', n1', cap2', e, ez', c0', c1', en, hpa'⟩ := ents_get (hv'.kept hkp) hy
      rw [hlen] at e
      cases e
      subst en
      rw [hy1] at c0'
      rw [hy2] at c1' hpa'
      have z1 : (0 : Int) ≤ (k : Int) := by omega
      have z2 : (k : Int) < (zs.length : Int) := by omega
      have HK : Hid _ := hkp
      clear hkp hy1 hy2 ez ez' hyz
      go_wp2_with fail
      go_region_held3 (fun w' => w'.cell? ⟨b, o + k * 2, none⟩ = some (.int .i64 z.1) ∧ w'.cell? ⟨b, o + k * 2 + 1, none⟩ = some (.slice ao1 z.2.2.length cap2) ∧ w'.cell? ⟨b', o' + k * 2, none⟩ = some (.int .i64 z.1) ∧ w'.cell? ⟨b', o' + k * 2 + 1, none⟩ = some (.slice ao1' z.2.2.length cap2')) (simp [go_sem, *])
        (first | (go_at_call 97; refine (eqEntity z.2.2 _ _ _ _ (hpa.kept ((But.refl _ _ wr).drew)) (hpa'.kept ((But.refl _ _ wr).drew)) hpl).mono ?_; rintro e w' ⟨rfl, hk2⟩; have c0 := Kept.cell hk2 c0; have c1 := Kept.cell hk2 c1; have c0' := Kept.cell hk2 c0'; have c1' := Kept.cell hk2 c1'))
      go_wp2
      exact ⟨⟨k + 1, hlt, by go_num, HK.out.trans ((But.refl _ _ wr).drew.trans hk2)⟩, by simp [intOf]; omega⟩
    · have hke : k = zs.length := by omega
      subst hke
      go_wp2
      go_ret
      exact ⟨rfl, hkp⟩

/-- No list of it is beyond the language's. -/
def Small (es : List ED) : Prop := es.length ≤ 9000000000000000000 ∧ ∀ e ∈ es, e.2.length ≤ 9000000000000000000
theorem eqWorld (D : WD) (v v' : Value) (w : World) (hv : WAt w v D) (hv' : WAt w v' D) (hf : Small D.2.2) :
    Calls Try.prog 21 #[v, v'] w fun e w' => e = .returned (.bool true) ∧ Kept w w' := by
  obtain ⟨ev, zs, rfl, he, hes⟩ := hv
  obtain ⟨ev', zs', rfl, he', hes'⟩ := hv'
  obtain ⟨ao, cap, hsl⟩ := row_nil he.1
  subst hsl
  obtain ⟨ao', cap', hsl⟩ := row_nil he'.1
  subst hsl
  have hl1 : zs.length ≤ 9000000000000000000 := by have := congrArg List.length hes; simp at this; rw [this]; exact hf.1
  have hl2 : ∀ z ∈ zs, z.2.2.length ≤ 9000000000000000000 := fun z hz => hf.2 (strip z) (by rw [← hes]; exact List.mem_map_of_mem hz)
  have HE : Hid (zs'.map strip = zs.map strip) := hes'.trans hes.symm
  clear hes hes' hf
  have K : ∀ o o', Kept w ((w.alloc o).alloc o') := fun o o' => ((But.refl _ _ _).alloc _).alloc _
  go_enter Try.func21, Try.ntmps21
  go_wp2_with (go_at_call 65; refine (eqEntityS zs zs' _ _ _ (he.kept (K _ _)) (he'.kept (K _ _)) HE.out hl1 hl2).mono ?_; rintro e w' ⟨rfl, hk⟩)
  go_ret
  exact ⟨rfl, (K _ _).trans hk⟩
end Go.Proofs.Ytajelalimiobeaa

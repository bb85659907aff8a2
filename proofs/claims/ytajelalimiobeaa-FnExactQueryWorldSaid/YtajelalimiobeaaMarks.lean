/-
  A world's memory written over with marks, and the marks found again.
-/
import Derived.Test.YtajelalimiobeaaMark
namespace Go.Proofs.Ytajelalimiobeaa
open Go.ChangeShapes Go.WideShapes Go.ChangeAt Go.RowKit

def mpart (k i : Nat) : PD := (mtext (k + 3 * i), ((k + 3 * i + 1 : Nat) : Int), ((k + 3 * i + 2 : Nat) : Int))
def mparts (k n : Nat) : List PD := (List.range n).map (mpart k)
theorem mparts_len (k n : Nat) : (mparts k n).length = n := by simp [mparts]
theorem mparts_get (k n i : Nat) (h : i < n) : (mparts k n)[i]? = some (mpart k i) := by simp [mparts, h]
def mix {α : Type} (a b : List α) (i : Nat) : List α := a.take i ++ b.drop i
theorem mix_zero {α : Type} (a b : List α) : mix a b 0 = b := by simp [mix]
theorem mix_all {α : Type} (a b : List α) (i : Nat) (ha : a.length = i) (hb : b.length = i) : mix a b i = a := by
  subst ha
  simp [mix, hb]
theorem mix_len {α : Type} (a b : List α) (i : Nat) (h : a.length = b.length) (hi : i ≤ b.length) : (mix a b i).length = b.length := by simp [mix]; omega
theorem mix_get {α : Type} (a b : List α) (i : Nat) (h : a.length = b.length) (hi : i < b.length) : (mix a b i)[i]? = b[i]? := by
  rw [mix, List.getElem?_append_right (by simp; omega)]
  have : i - (a.take i).length = 0 := by simp; omega
  rw [this, List.getElem?_drop, Nat.add_zero]
theorem mix_set {α : Type} (a b : List α) (i : Nat) (x : α) (h : a.length = b.length) (hx : a[i]? = some x) : (mix a b i).set i x = mix a b (i + 1) := by
  have hi : i < a.length := (List.getElem?_eq_some_iff.1 hx).1
  have hl : (a.take i).length = i := by simp; omega
  rw [mix, mix, List.set_append_right _ _ (by omega), hl, Nat.sub_self, List.drop_eq_getElem_cons (by omega : i < b.length), List.set_cons_zero, take_snoc hx, List.append_assoc]
  rfl

set_option maxHeartbeats 2000000 in
theorem markPartS (ps : List PD) (v : Value) (k lo hi : Nat) (w : World) (hv : PartsO w lo hi v ps) (hb : k + 3 * ps.length ≤ 1000000000000) :
    Calls Try.prog 98 #[v, .int .i64 (k : Int)] w fun e w' => e = .returned (.int .i64 ((k + 3 * ps.length : Nat) : Int)) ∧ PartsO w' lo hi v (mparts k ps.length) ∧ But (blo v) (bhi v) w w' := by
  obtain ⟨ao, cap, hsl, _⟩ := own_form hv.1
  subst hsl
  go_enter Try.func98, Try.ntmps98
  go_wp2
  go_loopw [1, 5] (fun kk i wr => ∃ (j : Nat), j ≤ ps.length ∧ i = .int .i64 j ∧ kk = .int .i64 ((k + 3 * j : Nat) : Int) ∧ PartsO wr lo hi (.slice ao ps.length cap) (mix (mparts k ps.length) ps j) ∧ But (blo (.slice ao ps.length cap)) (bhi (.slice ao ps.length cap)) w wr) (fun kk i _ => ps.length - (intOf i).toNat)
  case atStart => exact ⟨0, by omega, rfl, rfl, by rw [mix_zero]; exact hv, But.refl _ _ _⟩
  case round =>
    obtain ⟨j, hj, rfl, rfl, ho, hkp⟩ := hrel
    by_cases hlt : j < ps.length
    · obtain ⟨p, hp⟩ : ∃ p, ps[j]? = some p := ⟨_, List.getElem?_eq_getElem hlt⟩
      have hmg : (mix (mparts k ps.length) ps j)[j]? = some p := by rw [mix_get _ _ _ (mparts_len _ _) hlt]; exact hp
      have hml : ps.length = (mix (mparts k ps.length) ps j).length := (mix_len _ _ _ (mparts_len _ _) hj).symm
      obtain ⟨b, o, cap1, e, _⟩ := parts_get ho.at hmg
      rw [← hml] at e
      cases e
      obtain ⟨g', cap', hfm, _⟩ : ∃ g cap', Value.slice (some ⟨b, o, none⟩) ps.length cap = .slice (some ⟨g, 0, none⟩) ps.length cap' ∧ True := by
        rcases ho.1.2 with ⟨hf, _⟩ | ⟨g, c2, cur, hf, _⟩
        · cases hf
        · rw [← hml] at hf; exact ⟨g, c2, hf, trivial⟩
      cases hfm
      have hkb : k + 3 * j ≤ 1000000000000 := by omega
      generalize hK : k + 3 * j = K at *
      have HK : Hid (k + 3 * j = K) := hK
      have HP : Hid _ := ho
      have HB : Hid _ := hkp
      have HM : Hid (ps.length = (mix (mparts k ps.length) ps j).length ∧ (mix (mparts k ps.length) ps j)[j]? = some p) := ⟨hml, hmg⟩
      clear hK ho hkp hv hml hmg
      go_wp2_with (go_at_call 113; refine (markText K hkb _).mono ?_; rintro e w' ⟨rfl, hk2⟩
                   have ho2 := PartsO.kept HP.out hk2
                   obtain ⟨d0, d1, d2, dz⟩ := ho2.cells HM.out.2
                   have dz0 := dz (j * 3)
                   have dz1 := dz (j * 3 + 1)
                   have dz2 := dz (j * 3 + 2)
                   obtain ⟨d3, d4, d5⟩ := ho2.store HM.out.1 HM.out.2 (mtext K, (K : Int) + 1, (K : Int) + 1 + 1)
                   have HS : Hid _ := d5
                   clear d5 dz ho2)
      have hK := HK.out
      have hmp : (mparts k ps.length)[j]? = some (mtext K, (K : Int) + 1, (K : Int) + 1 + 1) := by
        rw [mparts_get k _ j hlt, mpart, hK]
        rw [show (K : Int) + 1 + 1 = ((K + 2 : Nat) : Int) by omega, show (K : Int) + 1 = ((K + 1 : Nat) : Int) by omega]
      have hst := mix_set _ _ j _ (mparts_len k ps.length) hmp
      refine ⟨⟨j + 1, hlt, by go_num, by congr 1; omega, by rw [← hst]; exact HS.out, ?_⟩, by simp [intOf]; omega⟩
      exact (((HB.out.transK hk2).trans (but_set _ _ _ _ _ _)).trans (but_set _ _ _ _ _ _)).trans (but_set _ _ _ _ _ _)
    · have hke : j = ps.length := by omega
      subst hke
      go_wp2
      go_ret
      refine ⟨rfl, ?_, hkp⟩
      rw [mix_all _ _ _ (mparts_len _ _) rfl] at ho
      exact ho

set_option maxHeartbeats 2000000 in
theorem heldPartS (n : Nat) (v : Value) (k : Nat) (w : World) (hv : PartsAt w v (mparts k n)) (hb : k + 3 * n ≤ 1000000000000) :
    Calls Try.prog 99 #[v, .int .i64 (k : Int)] w fun e w' => e = .returned (.int .i64 ((k + 3 * n : Nat) : Int)) ∧ Kept w w' := by
  obtain ⟨ao, cap, hsl⟩ := row_nil hv
  rw [mparts_len] at hsl
  subst hsl
  go_enter Try.func99, Try.ntmps99
  go_wp2
  go_loopw [1, 5] (fun kk i wr => ∃ (j : Nat), j ≤ n ∧ i = .int .i64 j ∧ kk = .int .i64 ((k + 3 * j : Nat) : Int) ∧ Kept w wr) (fun kk i _ => n - (intOf i).toNat)
  case atStart => exact ⟨0, by omega, rfl, rfl, But.refl _ _ _⟩
  case round =>
    obtain ⟨j, hj, rfl, rfl, hkp⟩ := hrel
    by_cases hlt : j < n
    · obtain ⟨b, o, cap1, e, c0, c1, c2⟩ := parts_get (hv.kept hkp) (mparts_get k n j hlt)
      rw [mparts_len] at e
      cases e
      have hkb : k + 3 * j ≤ 1000000000000 := by omega
      simp only [mpart] at c0 c1 c2
      generalize hK : k + 3 * j = K at *
      have HK : Hid (k + 3 * j = K) := hK
      have HB : Hid _ := hkp
      simp only [Int.natCast_add, Int.cast_ofNat_Int] at c1 c2
      rw [show (K : Int) + 2 = (K : Int) + 1 + 1 by omega] at c2
      have z1 : (0 : Int) ≤ (j : Int) := by omega
      have z2 : (j : Int) < (n : Int) := by omega
      clear hK hkp hv
      go_wp2_with fail
      go_region_held3 (fun w' => Kept wr w' ∧ w'.cell? ⟨b, o + j * 3, none⟩ = some (.string (mtext K)) ∧ w'.cell? ⟨b, o + j * 3 + 1, none⟩ = some (.int .i64 (K + 1)) ∧ w'.cell? ⟨b, o + j * 3 + 2, none⟩ = some (.int .i64 (K + 1 + 1))) (first | (refine ⟨?_, ?_, ?_, ?_⟩ <;> first | assumption | exact But.refl _ _ _ | exact (But.refl _ _ _).drew) | simp [go_sem, *])
        (first | (go_at_call 113; refine (markText K hkb _).mono ?_; rintro e w' ⟨rfl, hk2⟩; have c0 := Kept.cell hk2 c0; have c1 := Kept.cell hk2 c1; have c2 := Kept.cell hk2 c2; have hkk : Kept wr w' := ((But.refl _ _ wr).drew).trans hk2))
      go_wp2
      have hK := HK.out
      exact ⟨⟨j + 1, hlt, by go_num, by congr 1; omega, HB.out.trans hkk⟩, by simp [intOf]; omega⟩
    · have hke : j = n := by omega
      subst hke
      go_wp2
      go_ret
      exact ⟨rfl, hkp⟩

/-- How many marks the parts and Ids of a list of entities take. -/
def kcnt (es : List ED) : Nat := (es.map fun e => 1 + 3 * e.2.length).sum
theorem kcnt_snoc (es : List ED) (e : ED) : kcnt (es ++ [e]) = kcnt es + (1 + 3 * e.2.length) := by simp [kcnt]
theorem kcnt_take (es : List ED) (i : Nat) : kcnt (es.take i) ≤ kcnt es := by
  have h := congrArg kcnt (List.take_append_drop i es)
  have h2 : ∀ a b : List ED, kcnt (a ++ b) = kcnt a + kcnt b := fun a b => by simp [kcnt]
  rw [h2] at h
  omega
theorem kcnt_len (es : List ED) : es.length ≤ kcnt es := by
  induction es with
  | nil => simp
  | cons e es ih =>
    have : kcnt (e :: es) = (1 + 3 * e.2.length) + kcnt es := by simp [kcnt]
    rw [this, List.length_cons]
    omega
def kat (k : Nat) (es : List ED) (i : Nat) : Nat := k + kcnt (es.take i)
theorem kat_next {es : List ED} {i : Nat} {e : ED} (k : Nat) (h : es[i]? = some e) : kat k es (i + 1) = kat k es i + (1 + 3 * e.2.length) := by
  unfold kat
  rw [take_snoc h, kcnt_snoc]
  omega
theorem kat_le (k : Nat) (es : List ED) (i : Nat) : kat k es i ≤ k + kcnt es := by have := kcnt_take es i; unfold kat; omega
def mes (k : Nat) (es : List ED) : List ED := es.mapIdx fun i e => ((kat k es i : Int), mparts (kat k es i + 1) e.2.length)
def mzs (k : Nat) (zs : List PE) : List PE := zs.mapIdx fun i z => ((kat k (zs.map strip) i : Int), z.2.1, mparts (kat k (zs.map strip) i + 1) z.2.2.length)
theorem mzs_len (k : Nat) (zs : List PE) : (mzs k zs).length = zs.length := by simp [mzs]
theorem mes_len (k : Nat) (es : List ED) : (mes k es).length = es.length := by simp [mes]
theorem mzs_get {k : Nat} {zs : List PE} {i : Nat} {z : PE} (h : zs[i]? = some z) : (mzs k zs)[i]? = some ((kat k (zs.map strip) i : Int), z.2.1, mparts (kat k (zs.map strip) i + 1) z.2.2.length) := by
  simp [mzs, List.getElem?_mapIdx, h]
theorem mes_get {k : Nat} {es : List ED} {i : Nat} {e : ED} (h : es[i]? = some e) : (mes k es)[i]? = some ((kat k es i : Int), mparts (kat k es i + 1) e.2.length) := by
  simp [mes, List.getElem?_mapIdx, h]
theorem mzs_strip (k : Nat) (zs : List PE) : (mzs k zs).map strip = mes k (zs.map strip) := by
  apply List.ext_getElem?
  intro i
  cases h : zs[i]? with
  | none =>
    have hl : zs.length ≤ i := List.getElem?_eq_none_iff.1 h
    rw [List.getElem?_eq_none (by rw [List.length_map, mzs_len]; exact hl), List.getElem?_eq_none (by rw [mes_len, List.length_map]; exact hl)]
  | some z =>
    rw [List.getElem?_map, mzs_get h, mes_get (e := strip z) (by rw [List.getElem?_map, h]; rfl)]
    rfl

end Go.Proofs.Ytajelalimiobeaa

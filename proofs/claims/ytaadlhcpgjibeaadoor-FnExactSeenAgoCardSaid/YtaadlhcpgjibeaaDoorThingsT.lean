/-
  Lists of lists of things copied and compared.
-/
import Derived.Test.YtaadlhcpgjibeaaDoorThings
import Derived.Deep.RegionHeld3
namespace Go.Proofs.YtaadlhcpgjibeaaDoor
open Go.ChangeShapes Go.WideShapes Go.ChangeAt Go.RowKit

theorem info31 : (Tryd.prog.info? 31).map (fun i => (i.zero, i.size, i.bytes)) = some (some (.slice none 0 0), 1, 24) := by kernel_rfl
/-- A row that is being filled: its block is g, the lists lie behind it. -/
structure ThingsR (w : World) (g n : Nat) (ys : List ThingsE) : Prop where
  row : RowO w g (g + 1) 31 1 (.slice (some ⟨g, 0, none⟩) n n) ys.length (ys.flatMap thingsC)
  inn : ∀ (i : Nat) (r : ThingsE), ys[i]? = some r → ThingO w (g + 1) w.heap.size r.1 r.2
  apart : ∀ (i j : Nat) (r r' : ThingsE), i ≠ j → ys[i]? = some r → ys[j]? = some r' → Ap r.1 r'.1
theorem ThingsR.kept {w w' : World} {g n : Nat} {ys : List ThingsE} (h : ThingsR w g n ys) (k : Kept w w') : ThingsR w' g n ys := ⟨RowO.kept h.row k, fun i r hr => ((h.inn i r hr).kept k).mono (Nat.le_refl _) k.size, h.apart⟩
theorem ThingsR.cells {w : World} {g n : Nat} {ys : List ThingsE} (h : ThingsR w g n ys) {i : Nat} {p : ThingsE} (hp : ys[i]? = some p) : w.cell? ⟨g, i, none⟩ = some p.1 ∧ ∀ o, w.frozen? ⟨g, o, none⟩ = false := by
  obtain ⟨hc, hf⟩ := own_get 1 thingsC thingsC_len (by omega) h.row hp
  exact ⟨by have := hc 0 _ rfl; simpa using this, hf⟩
theorem ThingsR.set {w : World} {g n : Nat} {ys : List ThingsE} (h : ThingsR w g n ys) (hn : n = ys.length) {i : Nat} {p : ThingsE} (hp : ys[i]? = some p) (q : ThingsE) :
    RowO (w.setCell ⟨g, i, none⟩ q.1) g (g + 1) 31 1 (.slice (some ⟨g, 0, none⟩) n n) (ys.set i q).length ((ys.set i q).flatMap thingsC) := by
  subst hn
  have r0 := RowO.set h.row (1 * i + 0) q.1
  rw [flat_set 1 thingsC thingsC_len ys i 0 p q q.1 hp (by omega) rfl] at r0
  rw [List.length_set]
  simpa using r0

set_option maxHeartbeats 4000000 in
theorem toThingsS (ps : List ThingsE) (v : Value) (w : World) (hv : ThingsAt w v ps) (hl : ps.length ≤ 1048576) (hp : ∀ p ∈ ps, p.2.length ≤ 1048576) :
    Calls Tryd.prog 35 #[v] w fun e w' => ∃ v' ys, e = .returned v' ∧ ys.map Prod.snd = ps.map Prod.snd ∧ ThingsO w' w.heap.size w'.heap.size v' ys ∧ Kept w w' := by
  obtain ⟨ao, cap, hsl⟩ := row_nil hv.1
  subst hsl
  obtain ⟨i0, hi, hz0, hz1, hz2⟩ := info_parts info31
  have hmk : (Instr.makeSlice 60 (.int .i64 (ps.length : Int)) (.int .i64 (ps.length : Int))).run Tryd.prog w = .ok (.slice (some ⟨w.heap.size, 0, none⟩) ps.length ps.length) (w.alloc (.cells (madeCells #[.slice none 0 0] (ps.length * 1)) 31)) := by
    have := run_make (P := Tryd.prog) w 60 31 i0 _ Tryd.underlying60 hi hz0 .i64 .i64 (ps.length : Int) (ps.length : Int) (by omega) (by omega) (by rw [hz2]; omega) (by omega)
    rw [this, hz1]
    simp [Value.cells]
  have hm := row_made w w.heap.size 31 #[.slice none 0 0] 1 (by omega) thingsC things0 thingsC_len rfl ps.length (Nat.le_refl _) (by unfold maxLen; omega)
  clear hi hz0 hz1 hz2
  go_enter Tryd.func35, Tryd.ntmps35
  go_wp2
  clear hmk
  go_loopw [4] (fun i wr => ∃ (k : Nat) (ys : List ThingsE), k ≤ ps.length ∧ i = .int .i64 k ∧ ys.length = ps.length ∧ ys.map Prod.snd = (ps.take k ++ List.replicate (ps.length - k) things0).map Prod.snd ∧ ThingsR wr w.heap.size ps.length ys ∧ Kept w wr) (fun i _ => ps.length - (intOf i).toNat)
  case atStart =>
    refine ⟨0, List.replicate ps.length things0, by omega, rfl, by simp, by simp, ⟨by simpa using hm, fun i y hy => ?_, fun i j y y' hij hy hy' => ?_⟩, (But.refl _ _ _).alloc _⟩
    · obtain rfl : y = things0 := List.eq_of_mem_replicate (List.mem_of_getElem? hy)
      exact ⟨World.ownsRow_nil _ _ _ _, fun g hg => by simp [things0, Value.ownBlock] at hg⟩
    · obtain rfl : y = things0 := List.eq_of_mem_replicate (List.mem_of_getElem? hy)
      exact fun g hg => by simp [things0, Value.ownBlock] at hg
  case round =>
    obtain ⟨k, ys, hk, rfl, hyl, hys, ho, hkp⟩ := hrel
    have HY : Hid (ys.length = ps.length ∧ ys.map Prod.snd = (ps.take k ++ List.replicate (ps.length - k) things0).map Prod.snd) := ⟨hyl, hys⟩
    clear hm
    by_cases hlt : k < ps.length
    · obtain ⟨p, hpk⟩ : ∃ p, ps[k]? = some p := ⟨_, List.getElem?_eq_getElem hlt⟩
      obtain ⟨y, hy⟩ : ∃ y, ys[k]? = some y := ⟨_, List.getElem?_eq_getElem (by omega)⟩
      obtain ⟨b, o, cap', e, c0, hpa⟩ := things_get (hv.kept hkp) hpk
      cases e
      have hpl := hp p (List.mem_of_getElem? hpk)
      have HPK : Hid (ps[k]? = some p) := hpk
      clear hyl hys hpk
      obtain ⟨y0, l⟩ := p
      dsimp only at hpa hpl c0
      obtain ⟨ao3, cap3, hsl3⟩ := row_nil hpa
      subst hsl3
      have hsz0 := hkp.size
      have hlt1 := own_lt ho.row.1 (g := w.heap.size) rfl
      go_wp2_with (go_at_call 20; refine (toThingS l _ _ hpa hpl).mono ?_
                   rintro e w' ⟨pv, rfl, hpo, hk2⟩
                   obtain ⟨ao2, cap2, hf, _⟩ := own_form hpo.1
                   subst hf
                   have HAP : Hid (∀ (i : Nat) (r : ThingsE), ys[i]? = some r → Ap r.1 (.slice ao2 l.length cap2)) := fun i r hr => ap_low ((ho.inn i r hr).kept hk2) hpo (.inl (Nat.le_refl _))
                   have ho2 := ho.kept hk2
                   obtain ⟨d0, dz⟩ := ho2.cells hy
                   have dz0 := dz k
                   have HO : Hid _ := ho2
                   have hs2 := hk2.size
                   have HPO : Hid _ := hpo
                   clear dz ho ho2 hpo)
      have HR := ThingsR.set HO.out HY.out.1.symm hy (.slice ao2 l.length cap2, l)
      have B : But w.heap.size (w.heap.size + 1) w' (w'.setCell ⟨w.heap.size, k, none⟩ (.slice ao2 l.length cap2)) := (But.refl _ _ _).setCell (by simp) (by simp) _
      refine ⟨⟨k + 1, ys.set k (.slice ao2 l.length cap2, l), hlt, by go_num, by simp [HY.out.1], ?_, ⟨HR, fun i z hz => ?_, fun i j z z' hij hz hz' => ?_⟩, (hkp.trans hk2).onto B (Nat.le_refl _)⟩, by simp [intOf]; omega⟩
      · rw [List.map_set, HY.out.2, ← fill_set ps things0 HPK.out, List.map_set]
      · rcases get_set hz with ⟨_, rfl⟩ | ⟨_, hz⟩
        · exact (HPO.out.but B (by omega)).mono (by omega) B.size
        · exact ((HO.out.inn i z hz).but B (by omega)).mono (Nat.le_refl _) B.size
      · rcases get_set hz with ⟨hik, rfl⟩ | ⟨hik, hz⟩
        · rcases get_set hz' with ⟨hjk, rfl⟩ | ⟨_, hz'⟩
          · exact absurd (hik.trans hjk.symm) hij
          · exact (HAP.out j z' hz').symm
        · rcases get_set hz' with ⟨_, rfl⟩ | ⟨_, hz'⟩
          · exact HAP.out i z hz
          · exact HO.out.apart i j z z' hij hz hz'
    · have hke : k = ps.length := by omega
      subst hke
      have hsz := hkp.size
      go_wp2
      go_ret
      have hs := own_lt ho.row.1 (g := w.heap.size) rfl
      refine ⟨_, ys, rfl, ?_, ⟨?_, fun i y hy => (ho.inn i y hy).mono (by omega) (Nat.le_refl _), ho.apart⟩, hkp⟩
      · rw [HY.out.2]
        simp
      · have := RowO.low ho.row
        rw [HY.out.1] at this ⊢
        exact this

set_option maxHeartbeats 4000000 in
theorem eqThingsS (ps qs : List ThingsE) (v v' : Value) (w : World) (hpq : ps.map Prod.snd = qs.map Prod.snd) (hv : ThingsAt w v ps) (hv' : ThingsAt w v' qs) (hn : ps.length ≤ 9000000000000000000) (hm : ∀ p ∈ ps, p.2.length ≤ 9000000000000000000) :
    Calls Tryd.prog 38 #[v, v'] w fun e w' => e = .returned (.bool true) ∧ Kept w w' := by
  have hlen : qs.length = ps.length := (things_len hpq).symm
  obtain ⟨ao, cap, hsl⟩ := row_nil hv.1
  subst hsl
  obtain ⟨ao', cap', hsl⟩ := row_nil hv'.1
  rw [hlen] at hsl
  subst hsl
  go_enter Tryd.func38, Tryd.ntmps38
  go_wp2
  go_loopw [5] (fun i wr => ∃ (k : Nat), k ≤ ps.length ∧ i = .int .i64 k ∧ Kept w wr) (fun i _ => ps.length - (intOf i).toNat)
  case atStart => exact ⟨0, by omega, rfl, But.refl _ _ _⟩
  case round =>
    obtain ⟨k, hk, rfl, hkp⟩ := hrel
    by_cases hlt : k < ps.length
    · obtain ⟨p, hp⟩ : ∃ p, ps[k]? = some p := ⟨_, List.getElem?_eq_getElem hlt⟩
      obtain ⟨q, hq⟩ : ∃ q, qs[k]? = some q := ⟨_, List.getElem?_eq_getElem (by omega)⟩
      have hst := things_same hpq hp hq
      obtain ⟨b, o, cap1, e, c0, hpa⟩ := things_get (hv.kept hkp) hp
      cases e
      obtain ⟨b', o', cap1', e, c0', hqa⟩ := things_get (hv'.kept hkp) hq
      rw [hlen] at e
      cases e
      have hll := hm p (List.mem_of_getElem? hp)
      clear hp hq
      obtain ⟨v1, l⟩ := p
      obtain ⟨v2, l2⟩ := q
      dsimp only at hst
      subst hst
      dsimp only at hpa hqa hll c0 c0'
      obtain ⟨a1, p1, hsl⟩ := row_nil hpa
      subst hsl
      obtain ⟨a2, p2, hsl⟩ := row_nil hqa
      subst hsl
      have z1 : (0 : Int) ≤ (k : Int) := by omega
      have z2 : (k : Int) < (ps.length : Int) := by omega
      have HK : Hid _ := hkp
      have HP : Hid _ := hpa
      have HQ : Hid _ := hqa
      clear hkp hpa hqa
      go_wp2_with fail
      go_region_held3 (fun w' => Kept wr w' ∧ w'.cell? ⟨b, o + k, none⟩ = some (.slice a1 l.length p1) ∧ w'.cell? ⟨b', o' + k, none⟩ = some (.slice a2 l.length p2)) (first | (refine ⟨?_, ?_, ?_⟩ <;> first | assumption | exact But.refl _ _ _ | exact (But.refl _ _ _).drew) | simp [go_sem, *])
        (first | (go_at_call 22; refine (eqThingS l _ _ _ (RowAt.kept HP.out (But.drew (But.refl _ _ _))) (RowAt.kept HQ.out (But.drew (But.refl _ _ _))) hll).mono ?_; rintro e w' ⟨rfl, hk2⟩; have c0 := Kept.cell hk2 c0; have c0' := Kept.cell hk2 c0'; have hkk : Kept wr w' := ((But.refl _ _ wr).drew).trans hk2))
      go_wp2
      exact ⟨⟨k + 1, hlt, by go_num, HK.out.trans hkk⟩, by simp [intOf]; omega⟩
    · have hke : k = ps.length := by omega
      subst hke
      go_wp2
      go_ret
      exact ⟨rfl, hkp⟩

end Go.Proofs.YtaadlhcpgjibeaaDoor

/-
  Marks written over a list of chunks, and found again.
-/
import Derived.Test.YtipgffikmnebnaaChunks
import Derived.Test.YtipgffikmnebnaaBytM
namespace Go.Proofs.Ytipgffikmnebnaa
open Go.ChangeShapes Go.WideShapes Go.ChangeAt Go.RowKit

set_option maxRecDepth 100000
set_option linter.unusedVariables false
set_option linter.unusedSimpArgs false

theorem get_self {α : Type} {l : List α} {i : Nat} (x : α) (h : i < l.length) : (l.set i x)[i]? = some x := List.getElem?_set_self h
theorem set2 {α : Type} (l : List α) (i : Nat) (x y : α) : (l.set i x).set i y = l.set i y := List.set_set ..
theorem ChunkO.cells {w : World} {lo hi g cap m : Nat} {ps : List ChunkE} (h : ChunkO w lo hi (.slice (some ⟨g, 0, none⟩) m cap) ps) {i : Nat} {p : ChunkE} (hp : ps[i]? = some p) :
    (∀ j u, (chunkC p)[j]? = some u → w.cell? ⟨g, i * 3 + j, none⟩ = some u) ∧ ∀ o, w.frozen? ⟨g, o, none⟩ = false := own_get 3 chunkC chunkC_len (by omega) h.row hp
/-- A cell of an element is set: its list stays. -/
theorem ChunkO.put {w : World} {lo hi g cap m : Nat} {ps : List ChunkE} (h : ChunkO w lo hi (.slice (some ⟨g, 0, none⟩) m cap) ps) (hn : m = ps.length) {i : Nat} {p : ChunkE} (hp : ps[i]? = some p) (j : Nat) (hj : j < 3) (u : Value) (q : ChunkE) (hu : (chunkC p).set j u = chunkC q) (hq : q.2.2 = p.2.2) :
    ChunkO (w.setCell ⟨g, i * 3 + j, none⟩ u) lo hi (.slice (some ⟨g, 0, none⟩) m cap) (ps.set i q) := by
  subst hn
  have hap : ∀ (k : Nat) (z : ChunkE), ps[k]? = some z → BytO (w.setCell ⟨g, i * 3 + j, none⟩ u) lo hi z.2.2.1 z.2.2.2 := fun k z hz =>
    RowO.apart (h.inn k z hz) (but_set w g ps.length cap (i * 3 + j) u) (ap_types h.row (h.inn k z hz) (by decide)).symm
  refine ⟨?_, fun k z hz => ?_, fun k n z z' hkn hz hz' => ?_⟩
  · have := RowO.set h.row (3 * i + j) u
    rw [List.length_set, Nat.mul_comm i 3]
    rw [flat_set 3 chunkC chunkC_len ps i j p q u hp hj hu] at this
    exact this
  · rcases get_set hz with ⟨_, rfl⟩ | ⟨_, hz⟩
    · rw [hq]; exact hap i p hp
    · exact hap k z hz
  · rcases get_set hz with ⟨h1, e1⟩ | ⟨h1, g1⟩
    · rcases get_set hz' with ⟨h2, e2⟩ | ⟨_, g2⟩
      · exact absurd (h1.trans h2.symm) hkn
      · rw [e1, hq]; exact h.apart i n p z' (fun e => hkn (h1.trans e)) hp g2
    · rcases get_set hz' with ⟨h2, e2⟩ | ⟨_, g2⟩
      · rw [e2, hq]; exact h.apart k i z p (fun e => hkn (e.trans h2.symm)) g1 hp
      · exact h.apart k n z z' hkn g1 g2
theorem ChunkO.inner {w w' : World} {lo hi : Nat} {v : Value} {ps : List ChunkE} (h : ChunkO w lo hi v ps) {i : Nat} {p : ChunkE} (hp : ps[i]? = some p) {l' : List BytD} (k : But (blo p.2.2.1) (bhi p.2.2.1) w w') (hk : BytO w' lo hi p.2.2.1 l') : ChunkO w' lo hi v (ps.set i (p.1, p.2.1, (p.2.2.1, l'))) := by
  have hil : i < ps.length := (List.getElem?_eq_some_iff.1 hp).1
  have hc : (ps.set i (p.1, p.2.1, (p.2.2.1, l'))).flatMap chunkC = ps.flatMap chunkC := by
    have e : ∀ ys : List ChunkE, ys.flatMap chunkC = (ys.map fun y => chunkC y).flatten := fun ys => by rw [List.flatMap_def]
    rw [e, e]
    congr 1
    apply List.ext_getElem?
    intro n
    rw [List.getElem?_map, List.getElem?_map, List.getElem?_set]
    by_cases hn : i = n
    · subst hn
      rw [if_pos rfl, hp]
      simp [hil, chunkC]
    · rw [if_neg hn]
  refine ⟨?_, fun j z hz => ?_, fun j m z z' hjm hz hz' => ?_⟩
  · rw [List.length_set, hc]
    exact RowO.apart h.row k (ap_types h.row (h.inn i p hp) (by decide))
  · rcases get_set hz with ⟨_, rfl⟩ | ⟨hji, hz⟩
    · exact hk
    · exact RowO.apart (h.inn j z hz) k (h.apart j i z p hji hz hp)
  · rcases get_set hz with ⟨hj, rfl⟩ | ⟨hj, hz⟩
    · rcases get_set hz' with ⟨hm, rfl⟩ | ⟨_, hz'⟩
      · exact absurd (hj.trans hm.symm) hjm
      · exact h.apart i m p z' (fun e => hjm (hj.trans e)) hp hz'
    · rcases get_set hz' with ⟨hm, rfl⟩ | ⟨_, hz'⟩
      · exact h.apart j i z p (fun e => hjm (e.trans hm.symm)) hz hp
      · exact h.apart j m z z' hjm hz hz'
def cMk (ps : List ChunkE) : Nat := (ps.map fun p => p.2.2.2.length + 2).sum
theorem cMk_snoc (l : List ChunkE) (p : ChunkE) : cMk (l ++ [p]) = cMk l + (p.2.2.2.length + 2) := by simp [cMk]
theorem cMk_take (l : List ChunkE) (k : Nat) : cMk (l.take k) ≤ cMk l := by
  have h := congrArg cMk (List.take_append_drop k l)
  have h2 : ∀ a b : List ChunkE, cMk (a ++ b) = cMk a + cMk b := fun a b => by simp [cMk]
  rw [h2] at h
  omega
def dMk (ds : List ChunkD) : Nat := (ds.map fun d => d.2.2.length + 2).sum
theorem cMk_strip (ts : List ChunkE) : cMk ts = dMk (ts.map stripChunk) := by unfold cMk dMk; rw [List.map_map]; rfl
theorem dMk_cost (ds : List ChunkD) : dMk ds ≤ 2 * chunksCost ds := by
  unfold dMk chunksCost
  induction ds with
  | nil => simp
  | cons d ds ih =>
    simp only [List.map_cons, List.sum_cons, List.length_cons] at ih ⊢
    have : d.2.2.length ≤ chunksOne d := by unfold chunksOne; omega
    omega
def mkT (s : Value) (K n : Nat) : ChunkE := ((K : Int), (K : Int) + 1, (s, mByt (K + 2) n))
def mk1 (k : Nat) (p : ChunkE) : ChunkE := mkT p.2.2.1 k p.2.2.2.length
def mkE : Nat → List ChunkE → List ChunkE
  | _, [] => []
  | k, p :: ps => mk1 k p :: mkE (k + (p.2.2.2.length + 2)) ps
theorem mkE_len : ∀ (k : Nat) (ps : List ChunkE), (mkE k ps).length = ps.length
  | _, [] => rfl
  | k, p :: ps => by rw [mkE, List.length_cons, mkE_len, List.length_cons]
theorem mkE_snoc : ∀ (k : Nat) (ps : List ChunkE) (p : ChunkE), mkE k (ps ++ [p]) = mkE k ps ++ [mk1 (k + cMk ps) p]
  | k, [], p => by simp [mkE, cMk]
  | k, q :: ps, p => by
    rw [List.cons_append, mkE, mkE, mkE_snoc, List.cons_append]
    congr 3
    simp [cMk]
    congr 1
    omega
theorem mkE_get : ∀ (k : Nat) (ps : List ChunkE) (j : Nat) (p : ChunkE), ps[j]? = some p → (mkE k ps)[j]? = some (mk1 (k + cMk (ps.take j)) p)
  | k, [], j, p, h => by simp at h
  | k, q :: ps, 0, p, h => by
    simp at h
    subst h
    simp [mkE, cMk]
  | k, q :: ps, j + 1, p, h => by
    simp at h
    rw [mkE, List.getElem?_cons_succ, mkE_get _ ps j p h]
    congr 2
    simp [cMk]
    omega
theorem mix_at {k j : Nat} {ps : List ChunkE} {p : ChunkE} (hp : ps[j]? = some p) : (mkE k (ps.take j) ++ ps.drop j)[j]? = some p ∧ ∀ q, (mkE k (ps.take j) ++ ps.drop j).set j q = mkE k (ps.take j) ++ q :: ps.drop (j + 1) := by
  have hj : j < ps.length := (List.getElem?_eq_some_iff.1 hp).1
  have hl : (mkE k (ps.take j)).length = j := by rw [mkE_len, List.length_take]; omega
  have hd : ps.drop j = p :: ps.drop (j + 1) := by
    rw [List.drop_eq_getElem_cons hj]
    congr 1
    have := List.getElem?_eq_getElem hj
    rw [hp] at this
    exact (Option.some.inj this).symm
  rw [hd]
  refine ⟨by rw [List.getElem?_append_right (by omega), hl]; simp, fun q => ?_⟩
  rw [List.set_append_right _ _ (by omega), hl]
  simp

set_option maxHeartbeats 4000000 in
theorem markCs (ps : List ChunkE) (v : Value) (k lo hi : Nat) (w : World) (hv : ChunkO w lo hi v ps) (hb : k + cMk ps ≤ 1000000000) (hn : ps.length ≤ 1000000000) :
    Calls Try.prog 52 #[v, .int .i64 (k : Int)] w fun e w' => e = .returned (.int .i64 ((k + cMk ps : Nat) : Int)) ∧ ChunkO w' lo hi v (mkE k ps) ∧ But lo hi w w' := by
  obtain ⟨ao, cap, hsl⟩ := hv.form
  subst hsl
  go_enter Try.func52, Try.ntmps52
  go_wp2
  go_loopw [1, 5] (fun kk i wr => ∃ (j : Nat), j ≤ ps.length ∧ i = .int .i64 j ∧ kk = .int .i64 ((k + cMk (ps.take j) : Nat) : Int) ∧ ChunkO wr lo hi (.slice ao ps.length cap) (mkE k (ps.take j) ++ ps.drop j) ∧ But lo hi w wr) (fun kk i _ => ps.length - (intOf i).toNat)
  case atStart => exact ⟨0, by omega, rfl, by simp [cMk], by simpa [mkE] using hv, But.refl _ _ _⟩
  case round =>
    obtain ⟨j, hj, rfl, rfl, ho, hkp⟩ := hrel
    by_cases hlt : j < ps.length
    · obtain ⟨p, hp⟩ : ∃ y, ps[j]? = some y := ⟨_, List.getElem?_eq_getElem (by omega)⟩
      have hmix := mix_at (k := k) hp
      have hsn := cMk_snoc (ps.take j) p
      rw [← take_snoc hp] at hsn
      have hse : mkE k (ps.take (j + 1)) = mkE k (ps.take j) ++ [mk1 (k + cMk (ps.take j)) p] := by rw [take_snoc hp, mkE_snoc]
      have hst := cMk_take ps (j + 1)
      have hyl : (mkE k (ps.take j) ++ ps.drop j).length = ps.length := by rw [List.length_append, mkE_len, List.length_take, List.length_drop]; omega
      obtain ⟨ys, hys⟩ : ∃ ys, mkE k (ps.take j) ++ ps.drop j = ys := ⟨_, rfl⟩
      rw [hys] at ho hmix hyl
      have hkb : k + cMk (ps.take j) + (p.2.2.2.length + 2) ≤ 1000000000 := by omega
      generalize hK : k + cMk (ps.take j) = K at *
      have HE : Hid (ys.set j (mk1 K p) = mkE k (ps.take (j + 1)) ++ ps.drop (j + 1)) := by
        show _ = _
        rw [hmix.2, hse]
        simp
      have HKK : Hid (k + cMk (ps.take (j + 1)) = K + (p.2.2.2.length + 2)) := by show _ = _; omega
      have hy := hmix.1
      obtain ⟨b, o, cap1, e, _⟩ := chunk_get ho.at hy
      rw [hyl] at e
      cases e
      obtain ⟨g', cap', hfm, _⟩ : ∃ g cap', Value.slice (some ⟨b, o, none⟩) ps.length cap = .slice (some ⟨g, 0, none⟩) ps.length cap' ∧ True := by
        rcases ho.row.1.2 with ⟨hf, _⟩ | ⟨g, c2, cur, hf, _⟩
        · cases hf
        · rw [hyl] at hf; exact ⟨g, c2, hf, trivial⟩
      cases hfm
      obtain ⟨y0, y1, ⟨s, l⟩⟩ := p
      dsimp only at hkb
      obtain ⟨a3, p3, hsl3⟩ := row_nil (ho.inn j _ hy).at
      dsimp only at hsl3
      subst hsl3
      have hjy : j < ys.length := by omega
      have d0 := (ho.cells hy).1 0 _ rfl
      have df0 := (ho.cells hy).2 (j * 3)
      have X1 := ho.put (by omega) hy 0 (by omega) (.int .i64 (K : Int)) ((K : Int), y1, (.slice a3 l.length p3, l)) rfl rfl
      have g1 : (ys.set j ((K : Int), y1, (.slice a3 l.length p3, l)))[j]? = some ((K : Int), y1, (.slice a3 l.length p3, l)) := get_self _ hjy
      have d1 := (X1.cells g1).1 1 _ rfl
      have df1 := (ho.cells hy).2 (j * 3 + 1)
      have X2 := X1.put (by rw [List.length_set]; omega) g1 1 (by omega) (.int .i64 ((K : Int) + 1)) ((K : Int), (K : Int) + 1, (.slice a3 l.length p3, l)) rfl rfl
      rw [set2] at X2
      have g2 : (ys.set j ((K : Int), (K : Int) + 1, (.slice a3 l.length p3, l)))[j]? = some ((K : Int), (K : Int) + 1, (.slice a3 l.length p3, l)) := get_self _ hjy
      have d2 := (X2.cells g2).1 2 _ rfl
      simp only [Nat.add_zero] at d0 X1 X2 d1 d2
      have HX2 : Hid (ChunkO ((wr.setCell ⟨b, j * 3, none⟩ (.int .i64 (K : Int))).setCell ⟨b, j * 3 + 1, none⟩ (.int .i64 ((K : Int) + 1))) lo hi (.slice (some ⟨b, 0, none⟩) ps.length cap) (ys.set j ((K : Int), (K : Int) + 1, (.slice a3 l.length p3, l)))) := X2
      have HG2 : Hid ((ys.set j ((K : Int), (K : Int) + 1, (.slice a3 l.length p3, l)))[j]? = some ((K : Int), (K : Int) + 1, (.slice a3 l.length p3, l))) := g2
      have HB1 : Hid (But lo hi w ((wr.setCell ⟨b, j * 3, none⟩ (.int .i64 (K : Int))).setCell ⟨b, j * 3 + 1, none⟩ (.int .i64 ((K : Int) + 1)))) := (hkp.trans (But.inner (but_set _ _ _ _ _ _) ho.row)).trans (But.inner (but_set _ _ _ _ _ _) X1.row)
      have HM : ((K : Int) + 1 + 1) = ((K + 2 : Nat) : Int) := by omega
      have HMM : Hid (((K : Int) + 1 + 1) = ((K + 2 : Nat) : Int)) := HM
      have HKB : Hid (K + 2 + l.length ≤ 1000000000000) := by show _ ≤ _; omega
      clear HM hsn hse hst hyl hmix hys hkp hv hy hK ho X1 X2 g1 g2
      repeat (first
        | (go_at_call 51
           rw [HMM.out]
           refine (markBytS l _ (K + 2) lo hi _ (HX2.out.inn j _ HG2.out) HKB.out).mono ?_
           rintro e w4 ⟨rfl, o4, b4⟩
           have X3 := ChunkO.inner HX2.out HG2.out b4 o4
           rw [set2] at X3
           have HX3 : Hid (ChunkO w4 lo hi (.slice (some ⟨b, 0, none⟩) ps.length cap) (ys.set j ((K : Int), (K : Int) + 1, (.slice a3 l.length p3, mByt (K + 2) l.length)))) := X3
           have HB4 : Hid (But lo hi w w4) := HB1.out.trans (But.inner b4 (HX2.out.inn j _ HG2.out))
           clear X3 b4 o4
           dsimp only)
        | go_values | go_skip | go_guarded | go_step | go_upon)
      have hE := HE.out
      have hKK := HKK.out
      dsimp only at hKK
      refine ⟨⟨j + 1, hlt, by go_num, by congr 1; omega, by rw [← hE]; exact HX3.out, HB4.out⟩, by simp [intOf]; omega⟩
    · have hke : j = ps.length := by omega
      subst hke
      go_wp2
      go_ret
      rw [List.take_length] at ho ⊢
      simp only [List.drop_length, List.append_nil] at ho
      exact ⟨rfl, ho, hkp⟩

set_option maxHeartbeats 4000000 in
theorem heldCs (ps : List ChunkE) (v : Value) (k : Nat) (w : World) (hv : ChunkAt w v (mkE k ps)) (hb : k + cMk ps ≤ 1000000000) (hn : ps.length ≤ 1000000000) :
    Calls Try.prog 53 #[v, .int .i64 (k : Int)] w fun e w' => e = .returned (.int .i64 ((k + cMk ps : Nat) : Int)) ∧ Kept w w' := by
  obtain ⟨ao, cap, hsl⟩ := row_nil hv.1
  rw [mkE_len] at hsl
  subst hsl
  go_enter Try.func53, Try.ntmps53
  go_wp2
  go_loopw [1, 5] (fun kk i wr => ∃ (j : Nat), j ≤ ps.length ∧ i = .int .i64 j ∧ kk = .int .i64 ((k + cMk (ps.take j) : Nat) : Int) ∧ Kept w wr) (fun kk i _ => ps.length - (intOf i).toNat)
  case atStart => exact ⟨0, by omega, rfl, by simp [cMk], But.refl _ _ _⟩
  case round =>
    obtain ⟨j, hj, rfl, rfl, hkp⟩ := hrel
    by_cases hlt : j < ps.length
    · obtain ⟨p, hp⟩ : ∃ y, ps[j]? = some y := ⟨_, List.getElem?_eq_getElem (by omega)⟩
      obtain ⟨b, o, cap1, e, c0, c1, c2, hna⟩ := chunk_get (hv.kept hkp) (mkE_get k ps j p hp)
      rw [mkE_len] at e
      cases e
      have hsn := cMk_snoc (ps.take j) p
      rw [← take_snoc hp] at hsn
      have hst := cMk_take ps (j + 1)
      have hkb : k + cMk (ps.take j) + (p.2.2.2.length + 2) ≤ 1000000000 := by omega
      have HKK : Hid (k + cMk (ps.take (j + 1)) = k + cMk (ps.take j) + (p.2.2.2.length + 2)) := by show _ = _; omega
      generalize hK : k + cMk (ps.take j) = K at *
      obtain ⟨y0, y1, ⟨s, l⟩⟩ := p
      unfold mk1 mkT at c0 c1 c2 hna
      dsimp only at c0 c1 c2 hna hkb HKK
      obtain ⟨a3, p3, hsl3⟩ := row_nil hna
      rw [mByt_len] at hsl3
      subst hsl3
      have HN : Hid (BytAt wr (.slice a3 l.length p3) (mByt (K + 2) l.length)) := hna
      have HK : Hid (Kept w wr) := hkp
      have HKB : Hid (K + 2 + l.length ≤ 1000000000000) := by show _ ≤ _; omega
      have HMM : Hid (((K : Int) + 1 + 1) = ((K + 2 : Nat) : Int)) := by show _ = _; omega
      obtain ⟨M, hM⟩ : ∃ M : Nat, K + 2 + l.length = M := ⟨_, rfl⟩
      have HM : Hid (K + 2 + l.length = M) := hM
      have hM0 : decide ((M : Int) < 0) = false := by simp
      have z0 : (0 : Int) ≤ (j : Int) := by omega
      have z1 : (j : Int) < (ps.length : Int) := by omega
      clear hM hsn hst hkp hna hK
      repeat (first
        | (go_at_call 57
           rw [HMM.out]
           refine (heldBytS l.length _ (K + 2) _ HN.out HKB.out).mono ?_
           rintro e w4 ⟨rfl, k4⟩
           rw [HM.out]
           dsimp only)
        | go_values | go_skip | go_guarded | go_step | go_upon)
      have hKK := HKK.out
      have hMM := HM.out
      exact ⟨⟨j + 1, hlt, by go_num, by congr 1; omega, HK.out.trans k4⟩, by simp [intOf]; omega⟩
    · have hke : j = ps.length := by omega
      subst hke
      go_wp2
      go_ret
      rw [List.take_length]
      exact ⟨rfl, hkp⟩

/-- Marks over lists as plain data: count and frame; and found again. -/
def ChunksM (w : World) (lo hi : Nat) (v : Value) (k : Nat) (ds : List ChunkD) : Prop := ∃ ts, ChunkO w lo hi v (mkE k ts) ∧ ts.map stripChunk = ds
theorem ChunksM.kept {w w' : World} {lo hi : Nat} {v : Value} {k : Nat} {ds : List ChunkD} (h : ChunksM w lo hi v k ds) (q : Kept w w') : ChunksM w' lo hi v k ds := by obtain ⟨ts, h, e⟩ := h; exact ⟨ts, h.kept q, e⟩
theorem ChunksM.but {w w' : World} {lo hi lo' hi' : Nat} {v : Value} {k : Nat} {ds : List ChunkD} (h : ChunksM w lo hi v k ds) (q : But lo' hi' w w') (ho : hi ≤ lo' ∨ hi' ≤ lo) : ChunksM w' lo hi v k ds := by obtain ⟨ts, h, e⟩ := h; exact ⟨ts, h.but q ho, e⟩
theorem markChunks (ds : List ChunkD) (v : Value) (k lo hi : Nat) (w : World) (hv : ChunksO w lo hi v ds) (hb : k + dMk ds ≤ 300000000) :
    Calls Try.prog 52 #[v, .int .i64 (k : Int)] w fun e w' => e = .returned (.int .i64 ((k + dMk ds : Nat) : Int)) ∧ ChunksM w' lo hi v k ds ∧ But lo hi w w' := by
  obtain ⟨ts, h, e⟩ := hv
  have hm := cMk_strip ts
  rw [e] at hm
  have hl : ts.length ≤ cMk ts := by
    clear h hm e
    induction ts with
    | nil => simp
    | cons a t ih => unfold cMk at ih ⊢; simp only [List.map_cons, List.sum_cons, List.length_cons]; omega
  have := markCs ts v k lo hi w h (by omega) (by omega)
  rw [hm] at this
  exact this.mono fun e' w' ⟨h1, h2, h3⟩ => ⟨h1, ⟨ts, h2, e⟩, h3⟩
theorem heldChunks (ds : List ChunkD) (v : Value) (k lo hi : Nat) (w : World) (hv : ChunksM w lo hi v k ds) (hb : k + dMk ds ≤ 300000000) :
    Calls Try.prog 53 #[v, .int .i64 (k : Int)] w fun e w' => e = .returned (.int .i64 ((k + dMk ds : Nat) : Int)) ∧ Kept w w' := by
  obtain ⟨ts, h, e⟩ := hv
  have hm := cMk_strip ts
  rw [e] at hm
  have hl : ts.length ≤ cMk ts := by
    clear h hm e
    induction ts with
    | nil => simp
    | cons a t ih => unfold cMk at ih ⊢; simp only [List.map_cons, List.sum_cons, List.length_cons]; omega
  have := heldCs ts v k w h.at (by omega) (by omega)
  rw [hm] at this
  exact this

end Go.Proofs.Ytipgffikmnebnaa

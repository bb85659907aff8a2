/-
  Hang in the specification.
-/
import Derived.Test.YtcljppnakmeldaaHang
namespace Go.Proofs.Ytcljppnakmeldaa
open Go.ChangeShapes Go.WideShapes Go.ChangeAt Go.RowKit

theorem made_zero (w : World) (b g : Nat) (hg : g = w.heap.size) (hb : b ≤ w.heap.size) : (w.alloc (.cells #[] 36)).ownsRow b 36 6 (.slice (some ⟨g, 0, none⟩) 0 0) 0 [] := by
  subst hg
  exact World.ownsRow_made (base := b) (e := 36) (size := 6) w #[] 0 hb (by unfold maxLen; omega) rfl

set_option maxRecDepth 100000 in
set_option maxHeartbeats 8000000 in
theorem shang_ok (l : List NodeD) (b o cap at' : Nat) (up : Int) (nm : ByteArray) (rest : Int × Int × Int × Int × Bool) (g s j : SpotD) (lo hi : Nat) (w : World) (ho : NodeO w lo hi (.slice (some ⟨b, o, none⟩) l.length cap) l) (hn : l.length ≤ 1048576) (hs : ∀ p ∈ l, p.1.size ≤ 1048576) (hG : GoodL l) (hat : l[at']? = some (nm, rest)) (hu0 : -1 ≤ up) (hu1 : up < at') (xs ys : List UpE) (hch : Chain l (at' : Int) xs) (hcu : Chain l up ys) (hyg : ∀ x ∈ ys, GoodS (spotN x.2))
    (hsg : standM s0 (rows ys).reverse = some g) (hss : standM s0 (rows xs).reverse = some s) (hj : joinM (backM g) s = j) (b2 : Bool) (hb2 : b2 = true ↔ GoodL (l.set at' (nm, up, j))) :
    Calls Try.prog 18 #[.slice (some ⟨b, o, none⟩) l.length cap, .int .i64 (at' : Int), .int .i64 up] w fun e w' => ∃ v', e = .returned (.tuple #[v', .bool b2]) ∧ NodeO w' w.heap.size w'.heap.size v' (if b2 then l.set at' (nm, up, j) else []) ∧ Kept w w' := by
  have hgg : GoodS g := standM_good _ _ _ (by decide) hsg
  have hgs : GoodS s := standM_good _ _ _ (by decide) hss
  have hspo := specSpotOf l (.slice (some ⟨b, o, none⟩) l.length cap) lo hi (at' : Int) w ho hn hs
  rw [spotA_good hG (by omega) hch, hss] at hspo
  obtain ⟨jx, jy, jt, jf⟩ := j
  obtain ⟨gx, gy, gt, gf⟩ := g
  obtain ⟨sx, sy, st, sf⟩ := s
  obtain ⟨⟨kx, ky, kt, kf⟩, hk⟩ : ∃ k, backM (gx, gy, gt, gf) = k := ⟨_, rfl⟩
  have hgk : GoodS (kx, ky, kt, kf) := by rw [← hk]; exact back_good hgg
  have hj' : joinM (kx, ky, kt, kf) (sx, sy, st, sf) = (jx, jy, jt, jf) := by rw [← hk]; exact hj
  have hB : ∀ u, Calls Try.prog 42 #[.agg #[.int .i64 gx, .int .i64 gy, .int .i64 gt, .bool gf]] u fun e w' => e = .returned (.agg #[.int .i64 kx, .int .i64 ky, .int .i64 kt, .bool kf]) ∧ Kept u w' := fun u => by
    have := specBack _ u hgg
    rw [hk] at this
    exact this
  have hJ : ∀ u, Calls Try.prog 50 #[.agg #[.int .i64 kx, .int .i64 ky, .int .i64 kt, .bool kf], .agg #[.int .i64 sx, .int .i64 sy, .int .i64 st, .bool sf]] u fun e w' => e = .returned (.agg #[.int .i64 jx, .int .i64 jy, .int .i64 jt, .bool jf]) ∧ Kept u w' := fun u => by
    have h0 := specJoin (kx, ky, kt, kf) (sx, sy, st, sf) u hgk hgs
    rw [hj'] at h0
    refine Calls.mono h0 ?_
    rintro e w' ⟨h1, o1, o2, o3, o4, rfl⟩
    exact ⟨h1, ((((But.refl _ _ _).alloc _).alloc _).alloc _).alloc _⟩
  have hWh := fun u h => l4Where l (.slice (some ⟨b, o, none⟩) l.length cap) ys up u hcu h hyg
  rw [hsg] at hWh
  have hil : at' < l.length := (List.getElem?_eq_some_iff.1 hat).1
  have hv := ho.at
  have q2 : inB up (-1) ((at' : Int) - 1) = true := by simp [inB]; omega
  have HSP : Hid (Calls Try.prog 25 _ _ _) := hspo
  have HBK : Hid _ := hB
  have HJN : Hid _ := hJ
  have HWH : Hid _ := hWh
  have HB2 : Hid (b2 = true ↔ GoodL (l.set at' (nm, up, jx, jy, jt, jf))) := hb2
  clear hspo hB hJ hWh hb2 hj' hk hgk hgg hgs hj hsg hss hch hcu hG hyg
  obtain ⟨i0, hi0, hz0, hz1, hz2⟩ := info_parts info36
  have hbw : b < w.heap.size := by
    obtain ⟨b0, o0, cap0, e0, f0, -⟩ := node_get hv hat
    cases e0
    exact World.block_lt_of_cell? w _ f0
  go_enter Try.func18, Try.ntmps18
  repeat (first
    | (go_at_call 25; refine HSP.out.mono ?_; rintro e w1 ⟨rfl, k1⟩; dsimp only [standA, sv])
    | (go_at_call 48; refine (l1In _ _ _ _).mono ?_; rintro e w' ⟨rfl, rfl⟩; rw [q2]; dsimp only)
    | go_values | go_skip | go_guarded | go_step | go_upon)
  go_at_call 49
  refine (HWH.out _ (hv.kept (k1.alloc _))).mono ?_
  rintro e w2 ⟨⟨g', ob, rfl, h1, h2⟩, k2⟩
  cases ob with
  | false => exact absurd (h2 rfl) (by simp)
  | true =>
  obtain rfl : (gx, gy, gt, gf) = g' := Option.some.inj (h1 rfl)
  have K2 : Kept w w2 := (k1.alloc _).trans k2
  have Ls := (Loc.new w1 [.int .i64 sx, .int .i64 sy, .int .i64 st, .bool sf] 24).kept k2
  have s0' := Ls.cell 0 rfl
  have s1' := Ls.cell 1 rfl
  have s2' := Ls.cell 2 rfl
  have s3' := Ls.cell 3 rfl
  have hsl := Ls.lt
  have hw1 := k1.size
  have x1 : w1.heap.size < w2.heap.size + 1 := by omega
  have x2 : w1.heap.size < w2.heap.size + 1 + 1 := by omega
  clear h1 h2 k1 k2
  dsimp only [sv]
  repeat (first | go_values | go_skip | go_guarded | go_step | go_upon)
  go_region_held3 (fun w' => w'.cell? ⟨w2.heap.size, 0, none⟩ = some (.int .i64 gx) ∧ w'.cell? ⟨w2.heap.size, 1, none⟩ = some (.int .i64 gy) ∧ w'.cell? ⟨w2.heap.size, 2, none⟩ = some (.int .i64 gt) ∧ w'.cell? ⟨w2.heap.size, 3, none⟩ = some (.bool gf) ∧ w'.cell? ⟨w1.heap.size, 0, none⟩ = some (.int .i64 sx) ∧ w'.cell? ⟨w1.heap.size, 1, none⟩ = some (.int .i64 sy) ∧ w'.cell? ⟨w1.heap.size, 2, none⟩ = some (.int .i64 st) ∧ w'.cell? ⟨w1.heap.size, 3, none⟩ = some (.bool sf)) (simp [go_sem, *])
    (first | (go_at_call 42; refine (HBK.out _).mono ?_; rintro e w4 ⟨rfl, k4⟩; have hc4 := k4.cell_eq; have hf4 := k4.frozen_eq; have hz4 := k4.size; (try simp at hz4); have n0 : w1.heap.size < w4.heap.size := (by omega); have n1 : w2.heap.size < w4.heap.size := (by omega); have kw4 : Kept w2 w4 := (But.trans (by (repeat (first | with_reducible exact But.refl _ _ _ | with_reducible apply But.drewN | with_reducible apply But.drew | with_reducible apply But.alloc | (with_reducible refine But.setNew ?_ (by simp; try omega) _)))) k4); (try have n3 : w2.heap.size + 1 < w4.heap.size := (by omega)))
           | (go_at_call 50; refine (HJN.out _).mono ?_; rintro e w5 ⟨rfl, k5⟩; have hc5 := k5.cell_eq; have hf5 := k5.frozen_eq; have hz5 := k5.size; (try simp at hz5); have m0 : w1.heap.size < w5.heap.size := (by omega); have m1 : w2.heap.size < w5.heap.size := (by omega); have kw5 : Kept w2 w5 := (But.trans (by (repeat (first | with_reducible exact kw4 | with_reducible apply But.drewN | with_reducible apply But.drew | with_reducible apply But.alloc | (with_reducible refine But.setNew ?_ (by simp; try omega) _)))) k5); (try have m3 : w2.heap.size + 1 < w5.heap.size := (by omega)); (try have m4 : w4.heap.size < w5.heap.size := (by omega)); (try have ya0 : (w5.cell? ⟨w4.heap.size, 0, none⟩).isSome = true := (by first | (simp [go_sem, *]; done) | fail)); (try have ya1 : (w5.cell? ⟨w4.heap.size, 1, none⟩).isSome = true := (by first | (simp [go_sem, *]; done) | fail)); (try have ya2 : (w5.cell? ⟨w4.heap.size, 2, none⟩).isSome = true := (by first | (simp [go_sem, *]; done) | fail)); (try have ya3 : (w5.cell? ⟨w4.heap.size, 3, none⟩).isSome = true := (by first | (simp [go_sem, *]; done) | fail)); (try have yb0 : (w5.cell? ⟨w2.heap.size + 1, 0, none⟩).isSome = true := (by first | (simp [go_sem, *]; done) | fail)); (try have yb1 : (w5.cell? ⟨w2.heap.size + 1, 1, none⟩).isSome = true := (by first | (simp [go_sem, *]; done) | fail)); (try have yb2 : (w5.cell? ⟨w2.heap.size + 1, 2, none⟩).isSome = true := (by first | (simp [go_sem, *]; done) | fail)); (try have yb3 : (w5.cell? ⟨w2.heap.size + 1, 3, none⟩).isSome = true := (by first | (simp [go_sem, *]; done) | fail))))
  · refine forgetX (fun w' => w'.cell? ⟨w5.heap.size, 0, none⟩ = some (.int .i64 jx) ∧ w'.cell? ⟨w5.heap.size, 1, none⟩ = some (.int .i64 jy) ∧ w'.cell? ⟨w5.heap.size, 2, none⟩ = some (.int .i64 jt) ∧ w'.cell? ⟨w5.heap.size, 3, none⟩ = some (.bool jf) ∧ w2.heap.size < w5.heap.size ∧ w5.heap.size < w'.heap.size ∧ Kept w2 w') ⟨by simp [go_sem, *], by simp [go_sem, *], by simp [go_sem, *], by simp [go_sem, *], m1, by simp, by (repeat (first | with_reducible exact kw5 | with_reducible apply But.drewN | with_reducible apply But.drew | with_reducible apply But.alloc | (with_reducible refine But.setNew ?_ (by simp; try omega) _)))⟩ ?_
    try clear n3
    try clear m3
    try clear m4
    clear hc4 hf4 hz4 n0 n1 kw4 k4 hc5 hf5 hz5 m0 m1 kw5 k5
    rintro W1 ⟨r0, r1, r2, r3, hlt', hgl, hkW⟩
    generalize w5.heap.size = g1 at r0 r1 r2 r3 hlt' hgl ⊢
    have KW : Kept w W1 := K2.trans hkW
    have hwz := KW.size
    have hw2z := hkW.size
    clear hkW
    repeat (first
      | (at_builtin; refine forgetL (fun w' => w' = W1.alloc (.cells #[] 36)) rfl ?_)
      | go_values | go_skip | go_guarded | go_step | go_upon)
    rintro W7 rfl
    refine wpList_append_own _ rfl _ _ 29 rfl W1.heap.size 36 i0 (.agg #[.string ByteArray.empty, .int .i64 0, .int .i64 0, .int .i64 0, .int .i64 0, .bool false]) 6 56 Try.underlying29 hi0 hz0 hz1 hz2 rfl (by decide) (.slice (some ⟨W1.heap.size, 0, none⟩) 0 0) 0 [] rfl (made_zero W1 _ _ rfl (Nat.le_refl _)) ⟨b, o, none⟩ l.length cap (l.flatMap nodeC) rfl (flat_len 6 nodeC nodeC_len l) (row_cells (hv.kept (KW.alloc _))) (one_nodes l) (by unfold maxLen; omega) (by omega) (by simp) ?_
    intro v3 w3 hown hgrow _
    rw [Nat.zero_add, List.nil_append] at hown
    obtain ⟨g, cap3, rfl⟩ := own_some hown (by omega)
    have k3 : But W1.heap.size (W1.heap.size + 1) (W1.alloc (.cells #[] 36)) w3 := (But.refl _ _ _).grown hgrow (by intro x hx; cases hx; exact .inr ⟨Nat.le_refl _, Nat.lt_succ_self _⟩)
    have k3' : Kept W1 w3 := But.onto ((But.refl _ _ W1).alloc _) k3 (Nat.le_refl _)
    have K3 := KW.trans k3'
    have r0 := k3'.cell r0
    have r1 := k3'.cell r1
    have r2 := k3'.cell r2
    have r3 := k3'.cell r3
    have hO3 : NodeO w3 W1.heap.size w3.heap.size (.slice (some ⟨g, 0, none⟩) l.length cap3) l := RowO.top hown
    obtain ⟨d0, d1, d2, d3, d4, d5, dz⟩ := hO3.cells hat
    obtain ⟨e1, e2, e3, e4, e5, hst⟩ := hO3.store rfl hat (nm, up, jx, jy, jt, jf)
    dsimp only at d0 d1 d2 d3 d4 d5 e1 e2 e3 e4 e5 hst
    have dz0 := dz (at' * 6)
    have dz1 := dz (at' * 6 + 1)
    have dz2 := dz (at' * 6 + 2)
    have dz3 := dz (at' * 6 + 3)
    have dz4 := dz (at' * 6 + 4)
    have dz5 := dz (at' * 6 + 5)
    obtain ⟨b', o', cap', e', c0, -⟩ := node_get (hv.kept K3) hat
    cases e'
    dsimp only at c0
    have hgb := (own_lt hown (g := g) rfl).1
    have hn1 : g ≠ b := by omega
    have hn2 : g ≠ g1 := by omega
    have hn3 : b ≠ g := by omega
    have hn4 : g1 ≠ g := by omega
    have HK3 : Hid (Kept w w3) := K3
    have HST : Hid _ := hst
    clear hgrow hown k3 k3' K3 hO3 dz hst KW K2
    repeat (first | go_values | go_skip | go_guarded | go_step | go_upon)
    go_region_held3 (fun w' => w'.cell? ⟨b, o + at' * 6, none⟩ = some (.string nm) ∧ w'.cell? ⟨g1, 0, none⟩ = some (.int .i64 jx) ∧ w'.cell? ⟨g1, 1, none⟩ = some (.int .i64 jy) ∧ w'.cell? ⟨g1, 2, none⟩ = some (.int .i64 jt) ∧ w'.cell? ⟨g1, 3, none⟩ = some (.bool jf)) (simp [go_sem, *])
      (first | fail)
    repeat (first | go_values | go_skip | go_guarded | go_step | go_upon)
    go_at_call 21
    have hO4 := NodeO.kept HST.out ((But.refl _ _ _).drew)
    have K4 : Kept w _ := ((((((HK3.out.setNew (p := ⟨g, at' * 6, none⟩) (by simp; omega) (.string nm)).setNew (p := ⟨g, at' * 6 + 1, none⟩) (by simp; omega) (.int .i64 up)).setNew (p := ⟨g, at' * 6 + 2, none⟩) (by simp; omega) (.int .i64 jx)).setNew (p := ⟨g, at' * 6 + 3, none⟩) (by simp; omega) (.int .i64 jy)).setNew (p := ⟨g, at' * 6 + 4, none⟩) (by simp; omega) (.int .i64 jt)).setNew (p := ⟨g, at' * 6 + 5, none⟩) (by simp; omega) (.bool jf)).drew
    refine (end_of HB2.out (specGood (l.set at' (nm, up, jx, jy, jt, jf)) _ W1.heap.size w3.heap.size _ hO4 (by simp; exact hn) (set_names hat rfl hs))).mono ?_
    rintro e w6 ⟨rfl, k6⟩
    have hO5 := NodeO.kept hO4 k6
    have K5 := K4.trans k6
    have HO5 : Hid (NodeO w6 W1.heap.size w3.heap.size (.slice (some ⟨g, 0, none⟩) l.length cap3) (l.set at' (nm, up, jx, jy, jt, jf))) := hO5
    have HK5 : Hid (Kept w w6) := K5
    clear hO4 hO5 K4 K5 k6 d0 d1 d2 d3 d4 d5 e1 e2 e3 e4 e5 dz0 dz1 dz2 dz3 dz4 dz5 c0 r0 r1 r2 r3
    dsimp only
    cases b2 with
    | true =>
      repeat (first | go_values | go_skip | go_guarded | go_step | go_upon)
      refine bodyPost_ret (v := .tuple #[.slice (some ⟨g, 0, none⟩) l.length cap3, .bool true]) (by simp [results, Try.results18, go_sem]) rfl ?_
      exact ⟨_, rfl, (HO5.out.mono (by omega) (Nat.le_refl _)).low, HK5.out⟩
    | false =>
      repeat (first | go_values | go_skip | go_guarded | go_step | go_upon)
      refine bodyPost_ret (v := .tuple #[.slice none 0 0, .bool false]) (by simp [results, Try.results18, go_sem]) rfl ?_
      exact ⟨_, rfl, RowO.top (World.ownsRow_nil _ _ _ _), HK5.out⟩
  · refine forgetX (fun w' => w'.cell? ⟨w4.heap.size, 0, none⟩ = some (.int .i64 jx) ∧ w'.cell? ⟨w4.heap.size, 1, none⟩ = some (.int .i64 jy) ∧ w'.cell? ⟨w4.heap.size, 2, none⟩ = some (.int .i64 jt) ∧ w'.cell? ⟨w4.heap.size, 3, none⟩ = some (.bool jf) ∧ w2.heap.size < w4.heap.size ∧ w4.heap.size < w'.heap.size ∧ Kept w2 w') ⟨by simp [go_sem, *], by simp [go_sem, *], by simp [go_sem, *], by simp [go_sem, *], n1, by simp; omega, by (repeat (first | with_reducible exact kw5 | with_reducible apply But.drewN | with_reducible apply But.drew | with_reducible apply But.alloc | (with_reducible refine But.setNew ?_ (by simp; try omega) _)))⟩ ?_
    try clear n3
    try clear m3
    try clear m4
    clear hc4 hf4 hz4 n0 n1 kw4 k4 hc5 hf5 hz5 m0 m1 kw5 k5
    rintro W1 ⟨r0, r1, r2, r3, hlt', hgl, hkW⟩
    generalize w4.heap.size = g1 at r0 r1 r2 r3 hlt' hgl ⊢
    have KW : Kept w W1 := K2.trans hkW
    have hwz := KW.size
    have hw2z := hkW.size
    clear hkW
    repeat (first
      | (at_builtin; refine forgetL (fun w' => w' = W1.alloc (.cells #[] 36)) rfl ?_)
      | go_values | go_skip | go_guarded | go_step | go_upon)
    rintro W7 rfl
    refine wpList_append_own _ rfl _ _ 29 rfl W1.heap.size 36 i0 (.agg #[.string ByteArray.empty, .int .i64 0, .int .i64 0, .int .i64 0, .int .i64 0, .bool false]) 6 56 Try.underlying29 hi0 hz0 hz1 hz2 rfl (by decide) (.slice (some ⟨W1.heap.size, 0, none⟩) 0 0) 0 [] rfl (made_zero W1 _ _ rfl (Nat.le_refl _)) ⟨b, o, none⟩ l.length cap (l.flatMap nodeC) rfl (flat_len 6 nodeC nodeC_len l) (row_cells (hv.kept (KW.alloc _))) (one_nodes l) (by unfold maxLen; omega) (by omega) (by simp) ?_
    intro v3 w3 hown hgrow _
    rw [Nat.zero_add, List.nil_append] at hown
    obtain ⟨g, cap3, rfl⟩ := own_some hown (by omega)
    have k3 : But W1.heap.size (W1.heap.size + 1) (W1.alloc (.cells #[] 36)) w3 := (But.refl _ _ _).grown hgrow (by intro x hx; cases hx; exact .inr ⟨Nat.le_refl _, Nat.lt_succ_self _⟩)
    have k3' : Kept W1 w3 := But.onto ((But.refl _ _ W1).alloc _) k3 (Nat.le_refl _)
    have K3 := KW.trans k3'
    have r0 := k3'.cell r0
    have r1 := k3'.cell r1
    have r2 := k3'.cell r2
    have r3 := k3'.cell r3
    have hO3 : NodeO w3 W1.heap.size w3.heap.size (.slice (some ⟨g, 0, none⟩) l.length cap3) l := RowO.top hown
    obtain ⟨d0, d1, d2, d3, d4, d5, dz⟩ := hO3.cells hat
    obtain ⟨e1, e2, e3, e4, e5, hst⟩ := hO3.store rfl hat (nm, up, jx, jy, jt, jf)
    dsimp only at d0 d1 d2 d3 d4 d5 e1 e2 e3 e4 e5 hst
    have dz0 := dz (at' * 6)
    have dz1 := dz (at' * 6 + 1)
    have dz2 := dz (at' * 6 + 2)
    have dz3 := dz (at' * 6 + 3)
    have dz4 := dz (at' * 6 + 4)
    have dz5 := dz (at' * 6 + 5)
    obtain ⟨b', o', cap', e', c0, -⟩ := node_get (hv.kept K3) hat
    cases e'
    dsimp only at c0
    have hgb := (own_lt hown (g := g) rfl).1
    have hn1 : g ≠ b := by omega
    have hn2 : g ≠ g1 := by omega
    have hn3 : b ≠ g := by omega
    have hn4 : g1 ≠ g := by omega
    have HK3 : Hid (Kept w w3) := K3
    have HST : Hid _ := hst
    clear hgrow hown k3 k3' K3 hO3 dz hst KW K2
    repeat (first | go_values | go_skip | go_guarded | go_step | go_upon)
    go_region_held3 (fun w' => w'.cell? ⟨b, o + at' * 6, none⟩ = some (.string nm) ∧ w'.cell? ⟨g1, 0, none⟩ = some (.int .i64 jx) ∧ w'.cell? ⟨g1, 1, none⟩ = some (.int .i64 jy) ∧ w'.cell? ⟨g1, 2, none⟩ = some (.int .i64 jt) ∧ w'.cell? ⟨g1, 3, none⟩ = some (.bool jf)) (simp [go_sem, *])
      (first | fail)
    repeat (first | go_values | go_skip | go_guarded | go_step | go_upon)
    go_at_call 21
    have hO4 := NodeO.kept HST.out ((But.refl _ _ _).drew)
    have K4 : Kept w _ := ((((((HK3.out.setNew (p := ⟨g, at' * 6, none⟩) (by simp; omega) (.string nm)).setNew (p := ⟨g, at' * 6 + 1, none⟩) (by simp; omega) (.int .i64 up)).setNew (p := ⟨g, at' * 6 + 2, none⟩) (by simp; omega) (.int .i64 jx)).setNew (p := ⟨g, at' * 6 + 3, none⟩) (by simp; omega) (.int .i64 jy)).setNew (p := ⟨g, at' * 6 + 4, none⟩) (by simp; omega) (.int .i64 jt)).setNew (p := ⟨g, at' * 6 + 5, none⟩) (by simp; omega) (.bool jf)).drew
    refine (end_of HB2.out (specGood (l.set at' (nm, up, jx, jy, jt, jf)) _ W1.heap.size w3.heap.size _ hO4 (by simp; exact hn) (set_names hat rfl hs))).mono ?_
    rintro e w6 ⟨rfl, k6⟩
    have hO5 := NodeO.kept hO4 k6
    have K5 := K4.trans k6
    have HO5 : Hid (NodeO w6 W1.heap.size w3.heap.size (.slice (some ⟨g, 0, none⟩) l.length cap3) (l.set at' (nm, up, jx, jy, jt, jf))) := hO5
    have HK5 : Hid (Kept w w6) := K5
    clear hO4 hO5 K4 K5 k6 d0 d1 d2 d3 d4 d5 e1 e2 e3 e4 e5 dz0 dz1 dz2 dz3 dz4 dz5 c0 r0 r1 r2 r3
    dsimp only
    cases b2 with
    | true =>
      repeat (first | go_values | go_skip | go_guarded | go_step | go_upon)
      refine bodyPost_ret (v := .tuple #[.slice (some ⟨g, 0, none⟩) l.length cap3, .bool true]) (by simp [results, Try.results18, go_sem]) rfl ?_
      exact ⟨_, rfl, (HO5.out.mono (by omega) (Nat.le_refl _)).low, HK5.out⟩
    | false =>
      repeat (first | go_values | go_skip | go_guarded | go_step | go_upon)
      refine bodyPost_ret (v := .tuple #[.slice none 0 0, .bool false]) (by simp [results, Try.results18, go_sem]) rfl ?_
      exact ⟨_, rfl, RowO.top (World.ownsRow_nil _ _ _ _), HK5.out⟩
  · refine forgetX (fun w' => w'.cell? ⟨w2.heap.size + 1, 0, none⟩ = some (.int .i64 jx) ∧ w'.cell? ⟨w2.heap.size + 1, 1, none⟩ = some (.int .i64 jy) ∧ w'.cell? ⟨w2.heap.size + 1, 2, none⟩ = some (.int .i64 jt) ∧ w'.cell? ⟨w2.heap.size + 1, 3, none⟩ = some (.bool jf) ∧ w2.heap.size < w2.heap.size + 1 ∧ w2.heap.size + 1 < w'.heap.size ∧ Kept w2 w') ⟨by simp [go_sem, *], by simp [go_sem, *], by simp [go_sem, *], by simp [go_sem, *], by simp, by simp; omega, by (repeat (first | with_reducible exact kw5 | with_reducible apply But.drewN | with_reducible apply But.drew | with_reducible apply But.alloc | (with_reducible refine But.setNew ?_ (by simp; try omega) _)))⟩ ?_
    try clear n3
    try clear m3
    try clear m4
    clear hc4 hf4 hz4 n0 n1 kw4 k4 hc5 hf5 hz5 m0 m1 kw5 k5
    rintro W1 ⟨r0, r1, r2, r3, hlt', hgl, hkW⟩
    generalize w2.heap.size + 1 = g1 at r0 r1 r2 r3 hlt' hgl ⊢
    have KW : Kept w W1 := K2.trans hkW
    have hwz := KW.size
    have hw2z := hkW.size
    clear hkW
    repeat (first
      | (at_builtin; refine forgetL (fun w' => w' = W1.alloc (.cells #[] 36)) rfl ?_)
      | go_values | go_skip | go_guarded | go_step | go_upon)
    rintro W7 rfl
    refine wpList_append_own _ rfl _ _ 29 rfl W1.heap.size 36 i0 (.agg #[.string ByteArray.empty, .int .i64 0, .int .i64 0, .int .i64 0, .int .i64 0, .bool false]) 6 56 Try.underlying29 hi0 hz0 hz1 hz2 rfl (by decide) (.slice (some ⟨W1.heap.size, 0, none⟩) 0 0) 0 [] rfl (made_zero W1 _ _ rfl (Nat.le_refl _)) ⟨b, o, none⟩ l.length cap (l.flatMap nodeC) rfl (flat_len 6 nodeC nodeC_len l) (row_cells (hv.kept (KW.alloc _))) (one_nodes l) (by unfold maxLen; omega) (by omega) (by simp) ?_
    intro v3 w3 hown hgrow _
    rw [Nat.zero_add, List.nil_append] at hown
    obtain ⟨g, cap3, rfl⟩ := own_some hown (by omega)
    have k3 : But W1.heap.size (W1.heap.size + 1) (W1.alloc (.cells #[] 36)) w3 := (But.refl _ _ _).grown hgrow (by intro x hx; cases hx; exact .inr ⟨Nat.le_refl _, Nat.lt_succ_self _⟩)
    have k3' : Kept W1 w3 := But.onto ((But.refl _ _ W1).alloc _) k3 (Nat.le_refl _)
    have K3 := KW.trans k3'
    have r0 := k3'.cell r0
    have r1 := k3'.cell r1
    have r2 := k3'.cell r2
    have r3 := k3'.cell r3
    have hO3 : NodeO w3 W1.heap.size w3.heap.size (.slice (some ⟨g, 0, none⟩) l.length cap3) l := RowO.top hown
    obtain ⟨d0, d1, d2, d3, d4, d5, dz⟩ := hO3.cells hat
    obtain ⟨e1, e2, e3, e4, e5, hst⟩ := hO3.store rfl hat (nm, up, jx, jy, jt, jf)
    dsimp only at d0 d1 d2 d3 d4 d5 e1 e2 e3 e4 e5 hst
    have dz0 := dz (at' * 6)
    have dz1 := dz (at' * 6 + 1)
    have dz2 := dz (at' * 6 + 2)
    have dz3 := dz (at' * 6 + 3)
    have dz4 := dz (at' * 6 + 4)
    have dz5 := dz (at' * 6 + 5)
    obtain ⟨b', o', cap', e', c0, -⟩ := node_get (hv.kept K3) hat
    cases e'
    dsimp only at c0
    have hgb := (own_lt hown (g := g) rfl).1
    have hn1 : g ≠ b := by omega
    have hn2 : g ≠ g1 := by omega
    have hn3 : b ≠ g := by omega
    have hn4 : g1 ≠ g := by omega
    have HK3 : Hid (Kept w w3) := K3
    have HST : Hid _ := hst
    clear hgrow hown k3 k3' K3 hO3 dz hst KW K2
    repeat (first | go_values | go_skip | go_guarded | go_step | go_upon)
    go_region_held3 (fun w' => w'.cell? ⟨b, o + at' * 6, none⟩ = some (.string nm) ∧ w'.cell? ⟨g1, 0, none⟩ = some (.int .i64 jx) ∧ w'.cell? ⟨g1, 1, none⟩ = some (.int .i64 jy) ∧ w'.cell? ⟨g1, 2, none⟩ = some (.int .i64 jt) ∧ w'.cell? ⟨g1, 3, none⟩ = some (.bool jf)) (simp [go_sem, *])
      (first | fail)
    repeat (first | go_values | go_skip | go_guarded | go_step | go_upon)
    go_at_call 21
    have hO4 := NodeO.kept HST.out ((But.refl _ _ _).drew)
    have K4 : Kept w _ := ((((((HK3.out.setNew (p := ⟨g, at' * 6, none⟩) (by simp; omega) (.string nm)).setNew (p := ⟨g, at' * 6 + 1, none⟩) (by simp; omega) (.int .i64 up)).setNew (p := ⟨g, at' * 6 + 2, none⟩) (by simp; omega) (.int .i64 jx)).setNew (p := ⟨g, at' * 6 + 3, none⟩) (by simp; omega) (.int .i64 jy)).setNew (p := ⟨g, at' * 6 + 4, none⟩) (by simp; omega) (.int .i64 jt)).setNew (p := ⟨g, at' * 6 + 5, none⟩) (by simp; omega) (.bool jf)).drew
    refine (end_of HB2.out (specGood (l.set at' (nm, up, jx, jy, jt, jf)) _ W1.heap.size w3.heap.size _ hO4 (by simp; exact hn) (set_names hat rfl hs))).mono ?_
    rintro e w6 ⟨rfl, k6⟩
    have hO5 := NodeO.kept hO4 k6
    have K5 := K4.trans k6
    have HO5 : Hid (NodeO w6 W1.heap.size w3.heap.size (.slice (some ⟨g, 0, none⟩) l.length cap3) (l.set at' (nm, up, jx, jy, jt, jf))) := hO5
    have HK5 : Hid (Kept w w6) := K5
    clear hO4 hO5 K4 K5 k6 d0 d1 d2 d3 d4 d5 e1 e2 e3 e4 e5 dz0 dz1 dz2 dz3 dz4 dz5 c0 r0 r1 r2 r3
    dsimp only
    cases b2 with
    | true =>
      repeat (first | go_values | go_skip | go_guarded | go_step | go_upon)
      refine bodyPost_ret (v := .tuple #[.slice (some ⟨g, 0, none⟩) l.length cap3, .bool true]) (by simp [results, Try.results18, go_sem]) rfl ?_
      exact ⟨_, rfl, (HO5.out.mono (by omega) (Nat.le_refl _)).low, HK5.out⟩
    | false =>
      repeat (first | go_values | go_skip | go_guarded | go_step | go_upon)
      refine bodyPost_ret (v := .tuple #[.slice none 0 0, .bool false]) (by simp [results, Try.results18, go_sem]) rfl ?_
      exact ⟨_, rfl, RowO.top (World.ownsRow_nil _ _ _ _), HK5.out⟩
end Go.Proofs.Ytcljppnakmeldaa

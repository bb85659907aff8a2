/-
  Hang in the program.
-/
import Derived.Test.YtcljppnakmeldaaSeen
import Derived.Laws.AppendOwn
namespace Go.Proofs.Ytcljppnakmeldaa
open Go.ChangeShapes Go.WideShapes Go.ChangeAt Go.RowKit

theorem row_cells {w : World} {b o n cap : Nat} {xs : List Value} (h : RowAt w (.slice (some ⟨b, o, none⟩) n cap) n xs) : ∀ j u, xs[j]? = some u → w.cell? ((⟨b, o, none⟩ : Addr).add j) = some u := fun j u hu => by
  obtain ⟨ao, cap', e, hc⟩ := h
  cases e
  obtain ⟨b', o', e', h1⟩ := hc j u hu
  cases e'
  rw [Go.WideShapes.add_plain]
  exact h1
theorem one_nodes (l : List NodeD) : ∀ u ∈ l.flatMap nodeC, u.oneCell' = true := fun u hu => by
  obtain ⟨x, _, hx⟩ := List.mem_flatMap.1 hu
  exact one_node x u hx
theorem own_some {w : World} {base : Nat} {e : TypeId} {size : Nat} {v : Value} {n : Nat} {xs : List Value} (h : w.ownsRow base e size v n xs) (hn : 0 < n) : ∃ g cap, v = .slice (some ⟨g, 0, none⟩) n cap := by
  rcases h.2 with ⟨_, h0⟩ | ⟨g, cap, _, rfl, _⟩
  · omega
  · exact ⟨g, cap, rfl⟩
theorem forgetL {P : Program} {ops : Array Oper} {Q : Exit → Act → World → Prop} {L : List Oper} {a : Act} {W : World} (F : World → Prop) (hF : F W) (h : ∀ W', F W' → wpList P ops Q L a W') : wpList P ops Q L a W := h W hF
theorem set_names {l : List NodeD} {i : Nat} {n m : NodeD} (hi : l[i]? = some n) (hm : m.1 = n.1) (hs : ∀ p ∈ l, p.1.size ≤ 1048576) : ∀ p ∈ l.set i m, p.1.size ≤ 1048576 := fun p hp => by
  obtain ⟨j, hj⟩ := List.mem_iff_getElem?.1 hp
  rcases get_set hj with ⟨_, rfl⟩ | ⟨_, h⟩
  · rw [hm]; exact hs n (List.mem_of_getElem? hi)
  · exact hs p (List.mem_of_getElem? h)

set_option maxRecDepth 100000 in
set_option maxHeartbeats 8000000 in
theorem hang_ok (l : List NodeD) (b o cap at' : Nat) (up : Int) (nm : ByteArray) (rest : Int × Int × Int × Int × Bool) (j : SpotD) (lo hi : Nat) (w : World) (ho : NodeO w lo hi (.slice (some ⟨b, o, none⟩) l.length cap) l) (hn : l.length ≤ 1048576) (hs : ∀ p ∈ l, p.1.size ≤ 1048576) (hG : GoodL l) (hat : l[at']? = some (nm, rest)) (hu0 : -1 ≤ up) (hu1 : up < at') (xs ys : List UpE) (hch : Chain l (at' : Int) xs) (hcu : Chain l up ys) (hxl : xs.length ≤ 1048576) (hyl : ys.length ≤ 1048576)
    (hj : seenA (standM s0 (rows ys).reverse) (standM s0 (rows xs).reverse) = (j, true)) (b2 : Bool) (hb2 : b2 = true ↔ GoodL (l.set at' (nm, up, j))) :
    Calls Try.prog 17 #[.slice (some ⟨b, o, none⟩) l.length cap, .int .i64 (at' : Int), .int .i64 up] w fun e w' => ∃ v', e = .returned (.tuple #[v', .bool b2]) ∧ NodeO w' w.heap.size w'.heap.size v' (if b2 then l.set at' (nm, up, j) else []) ∧ Kept w w' := by
  obtain ⟨jx, jy, jt, jf⟩ := j
  have hb : (true = true ↔ GoodL l) := by simp [hG]
  have hil : at' < l.length := (List.getElem?_eq_some_iff.1 hat).1
  have hv := ho.at
  have q2 : (decide (0 ≤ (at' : Int)) && decide ((at' : Int) < (l.length : Int))) = true := by simp; omega
  have q3 : decide (up < -1) = false := by simp; omega
  have q4 : decide ((at' : Int) ≤ up) = false := by simp; omega
  have hse := fun W h => seenFrom l (.slice (some ⟨b, o, none⟩) l.length cap) (at' : Int) up xs ys hch hcu W h hxl hyl
  rw [hj] at hse
  have HB : Hid (true = true ↔ GoodL l) := hb
  have HB2 : Hid (b2 = true ↔ GoodL (l.set at' (nm, up, jx, jy, jt, jf))) := hb2
  have HSE : Hid _ := hse
  clear hb hse hj hb2 hch hcu hG
  obtain ⟨i0, hi0, hz0, hz1, hz2⟩ := info_parts info36
  have hbw : b < w.heap.size := by
    obtain ⟨b0, o0, cap0, e0, f0, -⟩ := node_get hv hat
    cases e0
    exact World.block_lt_of_cell? w _ f0
  go_enter Try.func17, Try.ntmps17
  repeat (first
    | (go_at_call 23; refine (end_of HB.out (implGood l _ lo hi _ ho hn hs)).mono ?_; rintro e w1 ⟨rfl, k1⟩; dsimp only) | (go_at_call 46; refine (hasNode _ _ _ _ _).mono ?_; rintro e w' ⟨rfl, rfl⟩; rw [q2]; dsimp only) | (go_at_call 47; refine (HSE.out _ (hv.kept k1)).mono ?_; rintro e w2 ⟨rfl, k2⟩; have K2 := k1.trans k2; clear k1 k2; dsimp only [sv])
    | (at_builtin; refine forgetL (fun w' => w' = w2.alloc (.cells #[.int .i64 jx, .int .i64 jy, .int .i64 jt, .bool jf] 24)) rfl ?_)
    | go_values | go_skip | go_guarded | go_step | go_upon)
  rintro W7 rfl
  refine wpList_append_own _ rfl _ _ 29 rfl (w2.heap.size + 1) 36 i0 (.agg #[.string ByteArray.empty, .int .i64 0, .int .i64 0, .int .i64 0, .int .i64 0, .bool false]) 6 56 Try.underlying29 hi0 hz0 hz1 hz2 rfl (by decide) (.slice none 0 0) 0 [] rfl (World.ownsRow_nil _ _ _ _) ⟨b, o, none⟩ l.length cap (l.flatMap nodeC) rfl (flat_len 6 nodeC nodeC_len l) (row_cells (hv.kept (K2.alloc _))) (one_nodes l) (by unfold maxLen; omega) (by omega) (by simp) ?_
  intro v3 w3 hown hgrow _
  rw [Nat.zero_add, List.nil_append] at hown
  obtain ⟨g, cap3, rfl⟩ := own_some hown (by omega)
  have k3 : Kept (w2.alloc (.cells #[.int .i64 jx, .int .i64 jy, .int .i64 jt, .bool jf] 24)) w3 := (But.refl _ _ _).grown hgrow (by intro x hx; cases hx)
  have K3 := (K2.alloc _).trans k3
  have L3 := (Loc.new w2 [.int .i64 jx, .int .i64 jy, .int .i64 jt, .bool jf] 24).kept k3
  have hO3 : NodeO w3 (w2.heap.size + 1) w3.heap.size (.slice (some ⟨g, 0, none⟩) l.length cap3) l := RowO.top hown
  obtain ⟨d0, d1, d2, d3, d4, d5, dz⟩ := hO3.cells hat
  obtain ⟨e1, e2, e3, e4, e5, hst⟩ := hO3.store rfl hat (nm, up, jx, jy, jt, jf)
  dsimp only at d0 d1 d2 d3 d4 d5 e1 e2 e3 e4 e5 hst
  have dz0 := dz (at' * 6)
  have dz1 := dz (at' * 6 + 1)
  have dz2 := dz (at' * 6 + 2)
  have dz3 := dz (at' * 6 + 3)
  have dz4 := dz (at' * 6 + 4)
  have dz5 := dz (at' * 6 + 5)
  obtain ⟨b', o', cap', e', c0, -⟩ := node_get (hv.kept K3) hat
  cases e'
  dsimp only at c0
  have s0' := L3.cell 0 rfl
  have s1' := L3.cell 1 rfl
  have s2' := L3.cell 2 rfl
  have s3' := L3.cell 3 rfl
  have hgb := (own_lt hown (g := g) rfl).1
  have hw2 := K2.size
  have hn1 : g ≠ b := by omega
  have hn2 : g ≠ w2.heap.size := by omega
  have hn3 : b ≠ g := by omega
  have hn4 : w2.heap.size ≠ g := by omega
  have HK3 : Hid (Kept w w3) := K3
  have HST : Hid _ := hst
  clear hgrow hown k3 K3 L3 hO3 dz hst K2
  repeat (first | go_values | go_skip | go_guarded | go_step | go_upon)
  go_region_held3 (fun w' => w'.cell? ⟨b, o + at' * 6, none⟩ = some (.string nm) ∧ w'.cell? ⟨w2.heap.size, 0, none⟩ = some (.int .i64 jx) ∧ w'.cell? ⟨w2.heap.size, 1, none⟩ = some (.int .i64 jy) ∧ w'.cell? ⟨w2.heap.size, 2, none⟩ = some (.int .i64 jt) ∧ w'.cell? ⟨w2.heap.size, 3, none⟩ = some (.bool jf)) (simp [go_sem, *])
    (first | fail)
  repeat (first | go_values | go_skip | go_guarded | go_step | go_upon)
  go_at_call 23
  have hO4 := NodeO.kept HST.out ((But.refl _ _ _).drew)
  have K4 : Kept w _ := ((((((HK3.out.setNew (p := ⟨g, at' * 6, none⟩) (by simp; omega) (.string nm)).setNew (p := ⟨g, at' * 6 + 1, none⟩) (by simp; omega) (.int .i64 up)).setNew (p := ⟨g, at' * 6 + 2, none⟩) (by simp; omega) (.int .i64 jx)).setNew (p := ⟨g, at' * 6 + 3, none⟩) (by simp; omega) (.int .i64 jy)).setNew (p := ⟨g, at' * 6 + 4, none⟩) (by simp; omega) (.int .i64 jt)).setNew (p := ⟨g, at' * 6 + 5, none⟩) (by simp; omega) (.bool jf)).drew
  refine (end_of HB2.out (implGood (l.set at' (nm, up, jx, jy, jt, jf)) _ (w2.heap.size + 1) w3.heap.size _ hO4 (by simp; exact hn) (set_names hat rfl hs))).mono ?_
  rintro e w5 ⟨rfl, k5⟩
  have hO5 := NodeO.kept hO4 k5
  have K5 := K4.trans k5
  have HO5 : Hid (NodeO w5 (w2.heap.size + 1) w3.heap.size (.slice (some ⟨g, 0, none⟩) l.length cap3) (l.set at' (nm, up, jx, jy, jt, jf))) := hO5
  have HK5 : Hid (Kept w w5) := K5
  clear hO4 hO5 K4 K5 k5 d0 d1 d2 d3 d4 d5 e1 e2 e3 e4 e5 dz0 dz1 dz2 dz3 dz4 dz5 c0 s0' s1' s2' s3'
  dsimp only
  cases b2 with
  | true =>
    repeat (first | go_values | go_skip | go_guarded | go_step | go_upon)
    refine bodyPost_ret (v := .tuple #[.slice (some ⟨g, 0, none⟩) l.length cap3, .bool true]) (by simp [results, Try.results17, go_sem]) rfl ?_
    exact ⟨_, rfl, (HO5.out.mono (by omega) (Nat.le_refl _)).low, HK5.out⟩
  | false =>
    repeat (first | go_values | go_skip | go_guarded | go_step | go_upon)
    refine bodyPost_ret (v := .tuple #[.slice none 0 0, .bool false]) (by simp [results, Try.results17, go_sem]) rfl ?_
    exact ⟨_, rfl, RowO.top (World.ownsRow_nil _ _ _ _), HK5.out⟩
end Go.Proofs.Ytcljppnakmeldaa

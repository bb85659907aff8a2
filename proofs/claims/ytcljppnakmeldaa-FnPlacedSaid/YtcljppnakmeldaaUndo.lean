/-
  A spot and its way back undo one another; what is hung elsewhere stands where it stood.
-/
import Derived.Test.YtcljppnakmeldaaSpotOf
import Derived.Test.YtcljppnakmeldaaSeen
import Derived.Test.YtcljppnakmeldaaJoinS
namespace Go.Proofs.Ytcljppnakmeldaa
open Go.ChangeShapes Go.WideShapes Go.ChangeAt Go.RowKit

theorem turns4 {t : Int} (h0 : 0 ≤ t) (h3 : t ≤ 3) : t = 0 ∨ t = 1 ∨ t = 2 ∨ t = 3 := by omega
theorem join_back_join (g s : SpotD) (hg : GoodS g) (hs : GoodS s) : joinM g (joinM (backM g) s) = s := by
  obtain ⟨gx, gy, gt, gf⟩ := g
  obtain ⟨sx, sy, st, sf⟩ := s
  obtain ⟨_, _, _, _, g5, g6⟩ := hg
  obtain ⟨_, _, _, _, s5, s6⟩ := hs
  simp only at g5 g6 s5 s6
  rcases turns4 g5 g6 with rfl | rfl | rfl | rfl <;> rcases turns4 s5 s6 with rfl | rfl | rfl | rfl <;> cases gf <;> cases sf <;>
    simp [joinM, backM, backT, carryM, flipX, rotN] <;> omega
theorem join_back (a : SpotD) (h : GoodS a) : joinM a (backM a) = s0 := by
  obtain ⟨gx, gy, gt, gf⟩ := a
  obtain ⟨_, _, _, _, g5, g6⟩ := h
  simp only at g5 g6
  rcases turns4 g5 g6 with rfl | rfl | rfl | rfl <;> cases gf <;> simp [joinM, backM, backT, carryM, flipX, rotN, s0] <;> omega
theorem back_join (a : SpotD) (h : GoodS a) : joinM (backM a) a = s0 := by
  obtain ⟨gx, gy, gt, gf⟩ := a
  obtain ⟨_, _, _, _, g5, g6⟩ := h
  simp only at g5 g6
  rcases turns4 g5 g6 with rfl | rfl | rfl | rfl <;> cases gf <;> simp [joinM, backM, backT, carryM, flipX, rotN, s0] <;> omega
theorem chain_set {l : List NodeD} {i : Nat} {n : NodeD} : ∀ (xs : List UpE) (a : Int), Chain l a xs → a < i → Chain (l.set i n) a xs
  | [], _, h, _ => h
  | x :: r, a, ⟨j, m, e, hj, ex, hlt, hr⟩, ha => ⟨j, m, e, by rw [List.getElem?_set_ne (by omega)]; exact hj, ex, hlt, chain_set r _ hr (by omega)⟩
theorem hang_stands {l : List NodeD} {i : Nat} {nm : ByteArray} {u : Int} {g s : SpotD} {ys : List UpE} (hG : GoodL (l.set i (nm, u, joinM (backM g) s))) (hi : i < l.length) (hu : u < i) (hcu : Chain l u ys) (hsg : standM s0 (rows ys).reverse = some g) (hgg : GoodS g) (hgs : GoodS s) (hgj : GoodS (joinM (backM g) s)) :
    spotA (l.set i (nm, u, joinM (backM g) s)) (i : Int) = some s := by
  have hc : Chain (l.set i (nm, u, joinM (backM g) s)) (i : Int) (((i : Int), (nm, u, joinM (backM g) s)) :: ys) :=
    ⟨i, (nm, u, joinM (backM g) s), rfl, by rw [List.getElem?_set_self hi], rfl, hu, chain_set ys u hcu hu⟩
  rw [spotA_good hG (by omega) hc]
  have e : (rows (((i : Int), (nm, u, joinM (backM g) s)) :: ys)).reverse = (rows ys).reverse ++ [(nm, u, joinM (backM g) s)] := by simp [rows]
  have ej : joinA g (spotN (nm, u, joinM (backM g) s)) = (s, true) := by
    show joinA g (joinM (backM g) s) = (s, true)
    unfold joinA
    rw [join_back_join g s hgg hgs, if_pos ⟨hgg, hgj, hgs⟩]
  rw [e, standM_snoc, hsg]
  simp [ej]
end Go.Proofs.Ytcljppnakmeldaa

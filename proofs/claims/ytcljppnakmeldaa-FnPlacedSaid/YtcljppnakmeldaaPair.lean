/-
  What hanging a node elsewhere answers on both sides; where it is done, the node stands where it stood.
-/
import Derived.Test.YtcljppnakmeldaaUndo
import Derived.Test.YtcljppnakmeldaaHang
import Derived.Test.YtcljppnakmeldaaHangNo
import Derived.Test.YtcljppnakmeldaaHangS
import Derived.Test.YtcljppnakmeldaaHangSNo
namespace Go.Proofs.Ytcljppnakmeldaa
open Go.ChangeShapes Go.WideShapes Go.ChangeAt Go.RowKit

def HangP (l : List NodeD) (a u : Int) : Prop := ∃ (R : List NodeD) (jb : Bool),
  (∀ (W : World) (lo hi : Nat) (v : Value), NodeO W lo hi v l → Calls Try.prog 18 #[v, .int .i64 a, .int .i64 u] W fun e w' => ∃ v', e = .returned (.tuple #[v', .bool jb]) ∧ NodeO w' W.heap.size w'.heap.size v' R ∧ Kept W w') ∧
  (∀ (W : World) (lo hi : Nat) (v : Value), NodeO W lo hi v l → Calls Try.prog 17 #[v, .int .i64 a, .int .i64 u] W fun e w' => ∃ v', e = .returned (.tuple #[v', .bool jb]) ∧ NodeO w' W.heap.size w'.heap.size v' R ∧ Kept W w') ∧
  (jb = false → R = []) ∧
  (jb = true → ∃ (i : Nat) (s : SpotD) (nm : ByteArray) (j : SpotD), a = (i : Int) ∧ R[i]? = some (nm, u, j) ∧ spotA l a = some s ∧ spotA R a = some s ∧ R.length = l.length ∧ (∀ p ∈ R, p.1.size ≤ 1048576) ∧ l.length ≤ 40)
theorem mk_no (l : List NodeD) (a u : Int)
    (hS : ∀ (W : World) (lo hi : Nat) (v : Value), NodeO W lo hi v l → Calls Try.prog 18 #[v, .int .i64 a, .int .i64 u] W fun e w' => ∃ v', e = .returned (.tuple #[v', .bool false]) ∧ NodeO w' W.heap.size w'.heap.size v' [] ∧ Kept W w')
    (hI : ∀ (W : World) (lo hi : Nat) (v : Value), NodeO W lo hi v l → Calls Try.prog 17 #[v, .int .i64 a, .int .i64 u] W fun e w' => ∃ v', e = .returned (.tuple #[v', .bool false]) ∧ NodeO w' W.heap.size w'.heap.size v' [] ∧ Kept W w') : HangP l a u :=
  ⟨[], false, hS, hI, fun _ => rfl, fun h => by cases h⟩
theorem hang_pair (l : List NodeD) (a u : Int) (hlen : l.length ≤ 1048576) (hs : ∀ p ∈ l, p.1.size ≤ 1048576) : HangP l a u := by
  by_cases hin : GoodL l ∧ 0 ≤ a ∧ a < l.length ∧ -1 ≤ u ∧ u < a
  · obtain ⟨hG, h1, h2, h3, h4⟩ := hin
    obtain ⟨xs, hch, hxl, hxg⟩ := chain_of hG a (by omega) h2
    obtain ⟨ys, hcu, hyl, hyg⟩ := chain_of hG u h3 (by omega)
    cases hss : standM s0 (rows xs).reverse with
    | none =>
      have hsp : spotA l a = none := by rw [spotA_good hG h1 hch, hss]
      have hse : seenA (standM s0 (rows ys).reverse) (standM s0 (rows xs).reverse) = (s0, false) := by rw [hss]; cases standM s0 (rows ys).reverse <;> rfl
      exact mk_no l a u (fun W lo hi v h => shang_no1 l v lo hi a u W h hlen hs hsp) (fun W lo hi v h => hang_lost l v lo hi a u W h hlen hs hG h1 h2 h3 h4 xs ys hch hcu (by omega) (by omega) s0 hse)
    | some s =>
      have hsp : spotA l a = some s := by rw [spotA_good hG h1 hch, hss]
      cases hsg : standM s0 (rows ys).reverse with
      | none =>
        have hse : seenA (standM s0 (rows ys).reverse) (standM s0 (rows xs).reverse) = (s0, false) := by rw [hsg]; rfl
        exact mk_no l a u (fun W lo hi v h => shang_no3 l v lo hi a u W h hlen hs s hsp h3 h4 h1 h2 ys hcu hyg hsg) (fun W lo hi v h => hang_lost l v lo hi a u W h hlen hs hG h1 h2 h3 h4 xs ys hch hcu (by omega) (by omega) s0 hse)
      | some g =>
        obtain ⟨i, rfl⟩ : ∃ i : Nat, a = i := ⟨a.toNat, by omega⟩
        obtain ⟨⟨nm, rest⟩, hat⟩ : ∃ p, l[i]? = some p := ⟨_, List.getElem?_eq_getElem (by omega)⟩
        have hgg : GoodS g := standM_good _ _ _ (by decide) hsg
        have hgs : GoodS s := standM_good _ _ _ (by decide) hss
        have hspec : ∀ (b2 : Bool), (b2 = true ↔ GoodL (l.set i (nm, u, joinM (backM g) s))) → ∀ (W : World) (lo hi : Nat) (v : Value), NodeO W lo hi v l → Calls Try.prog 18 #[v, .int .i64 (i : Int), .int .i64 u] W fun e w' => ∃ v', e = .returned (.tuple #[v', .bool b2]) ∧ NodeO w' W.heap.size w'.heap.size v' (if b2 then l.set i (nm, u, joinM (backM g) s) else []) ∧ Kept W w' := by
          intro b2 hb2 W lo hi v h
          obtain ⟨gg, cc, rfl⟩ := own_some h.1 (by omega)
          exact shang_ok l gg 0 cc i u nm rest g s _ lo hi W h hlen hs hG hat h3 h4 xs ys hch hcu hyg hsg hss rfl b2 hb2
        by_cases hgj : GoodS (joinM (backM g) s)
        · have hse : seenA (standM s0 (rows ys).reverse) (standM s0 (rows xs).reverse) = (joinM (backM g) s, true) := by
            rw [hsg, hss]
            exact if_pos ⟨back_good hgg, hgs, hgj⟩
          obtain ⟨b2, hb2⟩ : ∃ b : Bool, (b = true ↔ GoodL (l.set i (nm, u, joinM (backM g) s))) := by
            by_cases h : GoodL (l.set i (nm, u, joinM (backM g) s))
            · exact ⟨true, by simp [h]⟩
            · exact ⟨false, by simp [h]⟩
          refine ⟨if b2 then l.set i (nm, u, joinM (backM g) s) else [], b2, hspec b2 hb2, fun W lo hi v h => ?_, fun h => by rw [h]; rfl, fun h => ?_⟩
          · obtain ⟨gg, cc, rfl⟩ := own_some h.1 (by omega)
            exact hang_ok l gg 0 cc i u nm rest _ lo hi W h hlen hs hG hat h3 h4 xs ys hch hcu (by omega) (by omega) hse b2 hb2
          · subst h
            exact ⟨i, s, nm, joinM (backM g) s, rfl, by rw [if_pos rfl, List.getElem?_set_self (by omega)], hsp, by rw [if_pos rfl]; exact hang_stands (hb2.1 rfl) (by omega) h4 hcu hsg hgg hgs hgj, by simp, by rw [if_pos rfl]; exact set_names hat rfl hs, hG.1⟩
        · have hse : seenA (standM s0 (rows ys).reverse) (standM s0 (rows xs).reverse) = (s0, false) := by
            rw [hsg, hss]
            exact if_neg (fun h => hgj h.2.2)
          have hb2 : false = true ↔ GoodL (l.set i (nm, u, joinM (backM g) s)) := by
            constructor
            · intro h; cases h
            · intro h
              have := (h.2 i (nm, u, joinM (backM g) s) (by rw [List.getElem?_set]; simp; omega)).2.2.2.1
              exact absurd this hgj
          exact mk_no l (i : Int) u (hspec false hb2) (fun W lo hi v h => hang_lost l v lo hi (i : Int) u W h hlen hs hG h1 h2 h3 h4 xs ys hch hcu (by omega) (by omega) s0 hse)
  · refine mk_no l a u (fun W lo hi v h => ?_) (fun W lo hi v h => hang_out l v lo hi a u W h hlen hs hin)
    cases hsp : spotA l a with
    | none => exact shang_no1 l v lo hi a u W h hlen hs hsp
    | some s =>
      have hG : GoodL l := by
        by_cases hG : GoodL l
        · exact hG
        · rw [spotA_bad hG] at hsp; cases hsp
      have hr : 0 ≤ a ∧ a < l.length := by
        by_cases hr : 0 ≤ a ∧ a < l.length
        · exact hr
        · rw [spotA_out hr] at hsp; cases hsp
      exact shang_no2 l v lo hi a u W h hlen hs s hsp (fun hu => hin ⟨hG, hr.1, hr.2, hu.1, hu.2⟩) hr.1 hr.2
end Go.Proofs.Ytcljppnakmeldaa

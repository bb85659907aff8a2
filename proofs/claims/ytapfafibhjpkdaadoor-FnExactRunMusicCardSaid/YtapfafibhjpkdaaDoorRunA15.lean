/-
  A text put behind others within a region that draws its order.
-/
import Derived.Test.YtapfafibhjpkdaaDoorMRun15
import Derived.Test.YtapfafibhjpkdaaDoorTxt
import Derived.Test.YtapfafibhjpkdaaDoorZed15
import Derived.Deep.Slices
import Derived.Lib.AppendZeros
import Derived.Maps.AppendAt
namespace Go.Proofs.YtapfafibhjpkdaaDoor
open Go.ChangeShapes Go.WideShapes Go.ChangeAt Go.RowKit

set_option maxRecDepth 100000
set_option linter.unusedVariables false

theorem step_append_own {P : Program} {ops : Array Oper} {o : Oper} {a : Act} {w : World} {K : Act → World → Prop} {Q : Exit → Act → World → Prop} {E : Prop}
    (hg : o.guard = none) (s x : Operand) (t : TypeId) (hop : o.op = Op.call { callee := Callee.builtin Builtin.append, args := #[s, x], argTypes := #[t, t] })
    (base : Nat) (e : TypeId) (i : TypeInfo) (z : Value) (size bytes : Nat) (ht : P.underlying t = some (.slice e)) (hi : P.info? e = some i) (hz : i.zero = some z)
    (hsize : i.size = size) (hby : i.bytes = bytes) (hzs : z.cells.size = size) (hsz : 0 < size)
    (v : Value) (n : Nat) (xs : List Value) (hs : a.eval s = v) (hown : w.ownsRow base e size v n xs)
    (ad : Addr) (m c : Nat) (news : List Value) (hx : a.eval x = .slice (some ad) m c) (hl : news.length = m * size) (hnews : ∀ j u, news[j]? = some u → w.cell? (ad.add j) = some u) (h1 : ∀ u ∈ news, u.oneCell' = true)
    (h63 : n + m ≤ maxLen) (hbytes : (n + m) * bytes ≤ 140737488355328) (hbase : base ≤ w.heap.size)
    (h : ∀ v' w', w'.ownsRow base e size v' (n + m) (xs ++ news) → w.grownBy w' v.ownBlock → K (a.put o.dst v') w') :
    if Region.wanted o (yielded ops a.tmps) = true then Oper.wp P o a w K Q else E := by
  have hw : Region.wanted o (yielded ops a.tmps) = true := by simp [Region.wanted, hg]
  rw [if_pos hw]
  obtain ⟨v', w', hr, h2, h3, -, -⟩ := run_append_own_at (P := P) w base t o.type e i z size bytes ht hi hz hsize hby hzs hsz v n xs hown ad m c news hl hnews h1 h63 hbytes hbase
  exact Lib.wp_append_run w s x t t hop _ _ hs hx _ _ hr (h v' w' h2 h3)
theorem news_txt {W : World} {b : Nat} {t : ByteArray} (h : Loc W b [.string t]) : ∀ j u, ([.string t] : List Value)[j]? = some u → W.cell? ((⟨b, 0, none⟩ : Addr).add j) = some u := fun j u hu => by
  rw [Go.WideShapes.add_plain, Nat.zero_add]
  exact h.cell j hu
theorem info_txt : (Tryd.prog.info? 9).map (fun i => (i.zero, i.size, i.bytes)) = some (some (.string ⟨#[]⟩), 1, 16) := by kernel_rfl
theorem mus_size {l : List SectionD} {m : MusicD} (hn : secsCost l ≤ 1048576) (h : MusOk l m) : m.1.size ≤ 1048576 ∧ ∃ n : Nat, m.2.1 = (n : Int) ∧ ∀ hS : SecsP l, n < 64 := by
  obtain ⟨k, d, h1, h2, h3, _⟩ := h
  obtain ⟨d', h4, h5⟩ := fst_get h1
  rw [h2] at h4
  cases h4
  have e := toListI h5
  have h6 := secs_one (List.mem_of_getElem? h2)
  unfold secsOne at h6
  refine ⟨by rw [← e]; omega, m.2.1.toNat, by omega, fun hS => ?_⟩
  have := (sec_beats hS h2).1
  omega

end Go.Proofs.YtapfafibhjpkdaaDoor

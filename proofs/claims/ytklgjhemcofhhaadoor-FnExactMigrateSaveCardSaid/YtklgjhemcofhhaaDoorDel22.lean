/-
  What slices.Delete answers for one value.
-/
import Derived.Test.YtklgjhemcofhhaaDoorValF
import Derived.Test.YtklgjhemcofhhaaDoorLists22
import Derived.Deep.RegionLaw
import Derived.Lib.SliceRun
namespace Go.Proofs.YtklgjhemcofhhaaDoor
open Go.ChangeShapes Go.WideShapes Go.ChangeAt Go.RowKit

set_option maxRecDepth 100000
set_option linter.unusedVariables false
set_option linter.unusedSimpArgs false

/-- append where there is room, as one step of a region that draws: the row's block is told whole. -/
theorem step_room {P : Program} {ops : Array Oper} {o : Oper} {a : Act} {w : World} {K : Act → World → Prop} {Q : Exit → Act → World → Prop} {E : Prop}
    (hg : o.guard = none) (s x : Operand) (t : TypeId) (hop : o.op = Op.call { callee := Callee.builtin Builtin.append, args := #[s, x], argTypes := #[t, t] })
    (e : TypeId) (i : TypeInfo) (size : Nat) (h1 : P.underlying t = some (.slice e)) (h2 : P.info? e = some i) (h4 : i.size = size)
    (g n cap : Nat) (cur : Array Value) (hcur : w.heap[g]? = some (.cells cur e (0, 0))) (hs : a.eval s = .slice (some ⟨g, 0, none⟩) n cap)
    (ad : Addr) (m c : Nat) (news : List Value) (hx : a.eval x = .slice (some ad) m c) (hn : news.length = m * size) (hc : ∀ j u, news[j]? = some u → w.cell? (ad.add j) = some u) (h1c : ∀ u ∈ news, u.oneCell' = true)
    (hroom : n + m ≤ cap) (hfit : n * size + news.length ≤ cur.size)
    (hK : K (a.put o.dst (.slice (some ⟨g, 0, none⟩) (n + m) cap)) (w.setRow g (cur.toList.take (n * size) ++ news ++ cur.toList.drop (n * size + news.length)).toArray)) :
    if Region.wanted o (yielded ops a.tmps) = true then Oper.wp P o a w K Q else E := by
  have hw : Region.wanted o (yielded ops a.tmps) = true := by simp [Region.wanted, hg]
  rw [if_pos hw]
  subst h4
  have hrun := run_append_room (P := P) w t o.type e i h1 h2 g n cap cur hcur ad m c news hn hc h1c hroom hfit
  generalize (cur.toList.take (n * i.size) ++ news ++ cur.toList.drop (n * i.size + news.length)).toArray = C at hrun hK
  unfold Oper.wp
  simp [execOp, hop, resolve, invoke, builtin, hs, hx, hrun, Result.andThen]
  exact hK

theorem run_clear_row {P : Program} (w : World) (t e ty : TypeId) (z : Value) (ht : P.underlying t = some (.slice e)) (hv : ∀ w, (zeroValue e).run P w = .ok z w) (g o c : Nat) (cur : Array Value) (hcur : w.heap[g]? = some (.cells cur e (0, 0)))
    (zs : List Value) (hz : z.cells.toList = zs) (h1 : ∀ v ∈ zs, v.oneCell' = true) (hfit : o + zs.length ≤ cur.size) :
    (Builtin.clear_ #[t] ty #[.slice (some ⟨g, o, none⟩) 1 c]).run P w = .ok (.tuple #[]) (w.setRow g (cur.toList.take o ++ zs ++ cur.toList.drop (o + zs.length)).toArray) := by
  have hzc : (Builtin.zeroCells z.cells 1).toList = zs := by
    rw [← hz]
    apply List.ext_getElem
    · simp [Builtin.zeroCells]
    · intro i h1 h2
      simp at h2
      simp [Builtin.zeroCells, Nat.mod_eq_of_lt h2, getElem!_pos, h2]
  have hst := run_storeCells_at P g o e zs 0 cur w hcur (by simpa using hfit) h1
  simp only [Nat.add_zero] at hst
  simp [Builtin.clear_, run_underlying ht, hv, hzc, hst]

theorem setRow_but (w : World) (g : Nat) (c : Array Value) : But g (g + 1) w (w.setRow g c) :=
  ⟨rfl, rfl, by simp, fun b _ hb => setRow_other w g b _ (by omega)⟩

/-- The row that is left behind a deletion. -/
theorem own_deleted {W1 : World} {base g cap n' size a o N : Nat} {e : TypeId} {cur C1 C2 : Array Value} {xs news zs : List Value} (hbs : base ≤ g) (hW : W1.heap[g]? = some (.cells C1 e (0, 0))) (hxs : cur.toList.take N = xs) (ha : a ≤ N) (hNc : N ≤ cur.size)
    (hC1 : C1 = (cur.toList.take a ++ news ++ cur.toList.drop (a + news.length)).toArray) (ho : a + news.length = o) (hoz : o + zs.length ≤ cur.size) (hC2 : C2 = (C1.toList.take o ++ zs ++ C1.toList.drop (o + zs.length)).toArray)
    (hn : n' * size = o) (hnc : n' ≤ cap) (hcm : cap ≤ maxLen) (hsz : cur.size = cap * size) :
    (W1.setRow g C2).ownsRow base e size (.slice (some ⟨g, 0, none⟩) n' cap) n' (xs.take a ++ news) := by
  have l1 : (cur.toList.take a).length = a := by simp; omega
  have lC : C1.toList.length = cur.size := by rw [hC1]; simp only [List.length_append, List.length_drop, Array.length_toList, l1]; omega
  have t1 : C1.toList.take o = cur.toList.take a ++ news := by
    rw [hC1]
    show ((cur.toList.take a ++ news) ++ _).take o = _
    rw [List.take_append_of_le_length (by rw [List.length_append, l1]; omega), List.take_of_length_le (by rw [List.length_append, l1]; omega)]
  have t2 : C2.toList.take o = C1.toList.take o := by
    rw [hC2]
    show ((C1.toList.take o ++ zs) ++ _).take o = _
    rw [List.append_assoc, List.take_append_of_le_length (by rw [List.length_take, lC]; omega), List.take_take, Nat.min_self]
  have hx : xs.take a = cur.toList.take a := by rw [← hxs, List.take_take, Nat.min_eq_left ha]
  refine ⟨by rw [List.length_append, hx, l1, hn]; omega, .inr ⟨g, cap, C2, rfl, hbs, setRow_heap W1 g C1 C2 e _ hW, hnc, hcm, ?_, by rw [hn, t2, t1, hx]⟩⟩
  rw [← hsz, ← Array.length_toList, hC2]
  show ((C1.toList.take o ++ zs) ++ _).length = _
  simp only [List.length_append, List.length_take, List.length_drop, lC]
  omega

theorem zeroP (w : World) : (zeroValue 53).run Tryd.prog w = .ok (.agg #[.string ByteArray.empty, .int .i64 0, .string ByteArray.empty]) w := Tryd.zeroValue53 w

set_option maxHeartbeats 4000000 in
set_option maxRecDepth 100000 in
theorem deleteP (base g n cap i : Nat) (xs : List Value) (w : World) (hown : w.ownsRow base 53 3 (.slice (some ⟨g, 0, none⟩) n cap) n xs) (hx1 : ∀ u ∈ xs, u.oneCell' = true) (hi : i < n) (hn : n ≤ 1048576) :
    Calls Tryd.prog 71 #[.slice (some ⟨g, 0, none⟩) n cap, .int .i64 (i : Int), .int .i64 ((i : Int) + 1)] w fun e w' =>
      e = .returned (.slice (some ⟨g, 0, none⟩) (n - 1) cap) ∧ w'.ownsRow base 53 3 (.slice (some ⟨g, 0, none⟩) (n - 1) cap) (n - 1) (xs.take (i * 3) ++ xs.drop ((i + 1) * 3)) ∧ But g (g + 1) w w' := by
  rcases hown.2 with ⟨hv, _⟩ | ⟨g', cap', cur, hv, hbs, hgg, hnc, hcm, hsz, htk⟩
  · cases hv
  cases hv
  have hcm' : cap ≤ 9223372036854775807 := hcm
  have hxl := hown.1
  obtain ⟨i0, hi0, hz0, hz1, hz2⟩ := info_parts info53
  obtain ⟨news, hnews⟩ : ∃ news, news = xs.drop ((i + 1) * 3) := ⟨_, rfl⟩
  have hlen : news.length = (n - (i + 1)) * 3 := by rw [hnews, List.length_drop, hxl]; omega
  obtain ⟨A, hA, hsrc⟩ : ∃ A : Addr, (if cap = i + 1 then some (⟨g, 0, none⟩ : Addr) else some ⟨g, (i + 1) * 3, none⟩) = some A ∧ Hid (∀ t u, news[t]? = some u → w.drew.cell? (A.add t) = some u) := by
    by_cases h : cap = i + 1
    · refine ⟨⟨g, 0, none⟩, by simp [h], fun t u hu => ?_⟩
      have h0 : news.length = 0 := by rw [hlen]; omega
      rw [List.length_eq_zero_iff.1 h0] at hu
      simp at hu
    · refine ⟨⟨g, (i + 1) * 3, none⟩, by simp [h], fun t u hu => ?_⟩
      rw [hnews, List.getElem?_drop] at hu
      rw [Go.WideShapes.add_plain]
      obtain ⟨g2, c2, e2, _, hc2, _⟩ := own_cell hown hu
      cases e2
      exact hc2
  have s1 : Hid (news.length = (n - (i + 1)) * 3) := hlen
  have s2 : Hid (∀ u ∈ news, u.oneCell' = true) := fun u hu => hx1 u (by rw [hnews] at hu; exact List.mem_of_mem_drop hu)
  have s3 : Hid (w.drew.heap[g]? = some (.cells cur 53 (0, 0))) := hgg
  have s4 : Hid (i * 3 + news.length ≤ cur.size) := by
    show i * 3 + news.length ≤ cur.size
    rw [hlen, hsz]; omega
  obtain ⟨C1, hC1⟩ : ∃ C1, C1 = (cur.toList.take (i * 3) ++ news ++ cur.toList.drop (i * 3 + news.length)).toArray := ⟨_, rfl⟩
  obtain ⟨W1, hW1⟩ : ∃ W1, W1 = w.drew.setRow g C1 := ⟨_, rfl⟩
  have hW1g : W1.heap[g]? = some (.cells C1 53 (0, 0)) := by rw [hW1]; exact setRow_heap w.drew g cur C1 53 _ hgg
  have hC1s : C1.size = cap * 3 := by
    rw [hC1]; simp only [List.size_toArray, List.length_append, List.length_take, List.length_drop, Array.length_toList, hlen, hsz]; omega
  have hcl := fun ty c => run_clear_row (P := Tryd.prog) W1 23 53 ty _ Tryd.underlying23 zeroP g ((n - 1) * 3) c C1 hW1g [.string ByteArray.empty, .int .i64 0, .string ByteArray.empty] rfl (by intro u hu; simp at hu; rcases hu with rfl | rfl | rfl <;> rfl) (by simp; omega)
  have X0 : W1 = w.drew.setRow g (cur.toList.take (i * 3) ++ news ++ cur.toList.drop (i * 3 + news.length)).toArray := by rw [hW1, hC1]
  have X : Hid _ := X0
  obtain ⟨C2, hC2⟩ : ∃ C2 : Array Value, C2 = (C1.toList.take ((n - 1) * 3) ++ [Value.string ByteArray.empty, Value.int .i64 0, Value.string ByteArray.empty] ++ C1.toList.drop ((n - 1) * 3 + [Value.string ByteArray.empty, Value.int .i64 0, Value.string ByteArray.empty].length)).toArray := ⟨_, rfl⟩
  rw [← hC2] at hcl
  have HC2 : Hid _ := hC2
  have HCL : Hid _ := hcl
  clear X0 hC2 hcl
  have hic : i ≤ cap := by omega
  have hjc : i + 1 ≤ cap := by omega
  have HO : Hid _ := hown
  have HX : Hid (C1 = (cur.toList.take (i * 3) ++ news ++ cur.toList.drop (i * 3 + news.length)).toArray ∧ W1.heap[g]? = some (.cells C1 53 (0, 0)) ∧ But g (g + 1) w W1 ∧ cur.toList.take (n * 3) = xs ∧ news = xs.drop ((i + 1) * 3) ∧ news.length = (n - (i + 1)) * 3) := ⟨hC1, hW1g, by rw [hW1]; exact ((But.refl _ _ w).drew).trans (setRow_but _ _ _), htk, hnews, hlen⟩
  have HSZ : Hid (cur.size = cap * 3 ∧ cap ≤ maxLen) := ⟨hsz, hcm⟩
  clear hW1 hW1g hC1 hnews hlen htk hgg hown hxl hz0 hz2 hx1 hcm hsz hC1s
  have hb1 : (0 : Int) ≤ (i : Int) + 1 := by omega
  have hb2 : (i : Int) + 1 ≤ (n : Int) := by omega
  have hA' : Hid _ := hA
  clear hA
  go_enter Tryd.func71, Tryd.ntmps71
  go_wp2_with fail
  go_region_law (refine step_room rfl (.tmp 22) (.tmp 25) 23 rfl 53 i0 3 Tryd.underlying23 hi0 hz1 g i cap cur s3.out (by simp [Act.eval, Act.put]) A (n - (i + 1)) (cap - (i + 1)) news (by simp [Act.eval, Act.put, hA'.out]) s1.out hsrc.out s2.out (by omega) s4.out ?_; rw [← X.out])
  rw [show i + (n - (i + 1)) = n - 1 by omega]
  have hcl := fun ty => HCL.out ty (cap - (n - 1))
  have h1n : n - (n - 1) = 1 := by omega
  have hn1 : n - 1 < n := by omega
  have hn2 : ((n - 1 : Nat) : Int) ≤ (n : Int) := by omega
  have hn3 : ¬ cap = n - 1 := by omega
  have HKEY : Hid ((W1.setRow g C2).ownsRow base 53 3 (.slice (some ⟨g, 0, none⟩) (n - 1) cap) (n - 1) (xs.take (i * 3) ++ xs.drop ((i + 1) * 3)) ∧ But g (g + 1) w (W1.setRow g C2)) := by
    obtain ⟨h1, h2, h3, h4, h5, h6⟩ := HX.out
    refine ⟨?_, h3.trans (setRow_but _ _ _)⟩
    rw [← h5]
    exact own_deleted hbs h2 h4 (by omega) (by rw [HSZ.out.1]; omega) h1 (by rw [h6]; omega : i * 3 + news.length = (n - 1) * 3) (by rw [HSZ.out.1]; simp; omega) HC2.out rfl (by omega) HSZ.out.2 HSZ.out.1
  clear hb1 hb2 HX HC2 HSZ X s1 s2 s3 s4 hsrc HO
  go_wp2
  all_goals
    go_ret
    first
      | exact ⟨rfl, HKEY.out⟩
      | (rw [h] at HKEY; exact ⟨rfl, HKEY.out⟩)

end Go.Proofs.YtklgjhemcofhhaaDoor

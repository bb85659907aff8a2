/-
  Copies of lists of numbers.
-/
import Derived.Test.YtoimpkhgdpkhkaaGood20
import Derived.Test.YtoimpkhgdpkhkaaSplit20
import Derived.Deep.Slices
import Derived.Lib.AppendZeros
namespace Go.Proofs.Ytoimpkhgdpkhkaa
open Go.ChangeShapes Go.WideShapes Go.ChangeAt Go.RowKit

set_option maxRecDepth 100000
set_option linter.unusedVariables false
theorem run_append_none {P : Program} (w : World) (t ty e : TypeId) (i : TypeInfo) (ht : P.underlying t = some (.slice e)) (hi : P.info? e = some i) (ao : Option Addr) (n cap c : Nat) (hn : n ≤ cap) :
    (Builtin.append_ #[t, t] ty #[.slice ao n cap, .slice none 0 c]).run P w = .ok (.slice ao n cap) w := by
  cases ao <;> simp [Builtin.append_, run_underlying ht, sizeOf, typeInfo, hi, Builtin.lenOf, Builtin.firstCells, loadCells, hn, storeCells]

theorem row_none {w : World} {n cap : Nat} {xs : List Value} (h : RowAt w (.slice none n cap) n xs) : xs = [] := by
  obtain ⟨ao, cap', e, hc⟩ := h
  cases e
  cases xs with
  | nil => rfl
  | cons x xs => obtain ⟨b, o, e, _⟩ := hc 0 x rfl; cases e
theorem wpList_append_any {P : Program} (w : World) {ops : Array Oper} {rest : List Oper} {o : Oper} {a : Act} {Q : Exit → Act → World → Prop} (hgd : o.guard = none) (s x : Operand) (t : TypeId)
    (ho : o.op = .call { callee := .builtin .append, args := #[s, x], argTypes := #[t, t] })
    (base : Nat) (e : TypeId) (i : TypeInfo) (z : Value) (size bytes : Nat) (ht : P.underlying t = some (.slice e)) (hi : P.info? e = some i) (hz : i.zero = some z)
    (hsize : i.size = size) (hby : i.bytes = bytes) (hzs : z.cells.size = size) (hsz : 0 < size)
    (v : Value) (n : Nat) (xs : List Value) (hs : a.eval s = v) (hown : w.ownsRow base e size v n xs)
    (ao : Option Addr) (m c : Nat) (news : List Value) (hx : a.eval x = .slice ao m c) (hl : news.length = m * size) (hnews : ∀ j u, news[j]? = some u → ∃ ad, ao = some ad ∧ w.cell? (ad.add j) = some u) (h1 : ∀ u ∈ news, u.oneCell' = true)
    (h63 : n + m ≤ maxLen) (hbytes : (n + m) * bytes ≤ 140737488355328) (hbase : base ≤ w.heap.size)
    (h : ∀ v' w', w'.ownsRow base e size v' (n + m) (xs ++ news) → w.grownBy w' v.ownBlock → wpList P ops Q rest (a.put o.dst v') w') : wpList P ops Q (o :: rest) a w := by
  cases ao with
  | some ad =>
    refine wpList_append_own w hgd s x t ho base e i z size bytes ht hi hz hsize hby hzs hsz v n xs hs hown ad m c news hx hl (fun j u hu => ?_) h1 h63 hbytes hbase (fun v' w' h2 h3 _ => h v' w' h2 h3)
    obtain ⟨ad', e1, h2⟩ := hnews j u hu
    cases e1
    exact h2
  | none =>
    have hm : news = [] := by
      cases news with
      | nil => rfl
      | cons y l => obtain ⟨ad, e1, _⟩ := hnews 0 y rfl; cases e1
    subst hm
    obtain rfl : m = 0 := by
      rcases Nat.eq_zero_or_pos m with h0 | h0
      · exact h0
      · have := Nat.mul_pos h0 hsz
        simp at hl
        omega
    obtain ⟨ao', cap', hf, _⟩ := own_form hown
    have hcap : n ≤ cap' := by
      rcases hown.2 with ⟨hv, h0⟩ | ⟨g', c', cur, hv, _, _, hnc, _⟩
      · omega
      · rw [hf] at hv; cases hv; exact hnc
    have h2 := h v w (by simpa using hown) (World.grownBy.refl _ _)
    subst hf
    exact Lib.wpList_append_run w hgd s x t t ho _ _ hs hx _ _ (run_append_none w t o.type e i ht hi ao' n cap' c hcap) h2

theorem forgetL {P : Program} {ops : Array Oper} {Q : Exit → Act → World → Prop} {L : List Oper} {a : Act} {W : World} (F : World → Prop) (hF : F W) (h : ∀ W', F W' → wpList P ops Q L a W') : wpList P ops Q L a W := h W hF
theorem forgetX {K : Act → World → Prop} {Q : Exit → Act → World → Prop} {a : Act} {W : World} (F : World → Prop) (hF : F W) (h : ∀ W', F W' → Exit.then K Q Exit.normal a W') : Exit.then K Q Exit.normal a W := h W hF
theorem row_src {w : World} {ao : Option Addr} {n cap : Nat} {ps : List NumD} (h : NumAt w (.slice ao n cap) ps) : ∀ j u, (ps.flatMap numC)[j]? = some u → ∃ ad, ao = some ad ∧ w.cell? (ad.add j) = some u := fun j u hj => by
  obtain ⟨ao', cap', e, hc⟩ := h
  cases e
  obtain ⟨b, o, e2, h2⟩ := hc j u hj
  exact ⟨⟨b, o, none⟩, e2, by rw [Go.WideShapes.add_plain]; exact h2⟩
theorem news1 {W : World} {b : Nat} {cs : List Value} (h : Loc W b cs) : ∀ j u, cs[j]? = some u → W.cell? ((⟨b, 0, none⟩ : Addr).add j) = some u := fun j u hu => by
  rw [Go.WideShapes.add_plain, Nat.zero_add]
  exact h.cell j hu
theorem ones (l : List NumD) : ∀ u ∈ l.flatMap numC, u.oneCell' = true := fun u hu => by
  obtain ⟨p, _, h⟩ := List.mem_flatMap.1 hu
  simp [numC] at h
  subst h
  rfl
theorem info_num : (Try.prog.info? 3).map (fun i => (i.zero, i.size, i.bytes)) = some (some (.int .i64 0), 1, 8) := by kernel_rfl
theorem own_new (w : World) (t : TypeId) : (w.alloc (.cells #[] t)).ownsRow w.heap.size t 1 (.slice (some ⟨w.heap.size, 0, none⟩) 0 0) 0 [] := ⟨rfl, Or.inr ⟨w.heap.size, 0, #[], rfl, Nat.le_refl _, heap_alloc_new w _, Nat.le_refl _, Nat.zero_le _, rfl, rfl⟩⟩
theorem at_none {w : World} {n cap : Nat} {l : List NumD} (h : NumAt w (.slice none n cap) l) : l = [] := by
  obtain ⟨ao, cap', e, hc⟩ := h
  cases e
  cases l with
  | nil => rfl
  | cons x xs => obtain ⟨b, o, e, _⟩ := hc 0 (.int .i64 x) (by simp [numC]); cases e

set_option maxHeartbeats 4000000 in
theorem iclone (l : List Int) (v : Value) (w : World) (hv : NumAt w v l) (hl : l.length ≤ 1048576) :
    Calls Try.prog 48 #[v] w fun e w' => ∃ v', e = .returned v' ∧ NumO w' w.heap.size w'.heap.size v' l ∧ Kept w w' := by
  obtain ⟨ao, cap, hsl⟩ := row_nil hv
  subst hsl
  cases ao with
  | none =>
    obtain rfl := at_none hv
    have hb : ∀ W, Sem.run Try.prog (binOp BinOp.eql 34 (.slice none 0 cap) (.slice none 0 0)) W = .ok (.bool true) W := fun W => by kernel_rfl
    simp only [List.length_nil]
    go_enter Try.func48, Try.ntmps48
    repeat (first | go_values | go_skip | go_guarded | go_step | go_upon)
    go_ret
    exact ⟨_, rfl, RowO.top (World.ownsRow_nil _ _ _ _), But.refl _ _ _⟩
  | some p =>
    have hb : ∀ W, Sem.run Try.prog (binOp BinOp.eql 34 (.slice (some p) l.length cap) (.slice none 0 0)) W = .ok (.bool false) W := fun W => by kernel_rfl
    obtain ⟨i0, hi0, hz0, hz1, hz2⟩ := info_parts info_num
    go_enter Try.func48, Try.ntmps48
    repeat (first
      | (at_builtin
         refine wpList_append_any _ rfl _ _ 34 rfl w.heap.size 3 i0 (.int .i64 0) 1 8 Try.underlying34 hi0 hz0 hz1 hz2 rfl (by decide) _ _ _ rfl (own_new w 3) (some p) l.length cap (l.flatMap numC) rfl (flat_len 1 numC numC_len l) (row_src (hv.kept ((But.refl _ _ w).alloc _))) (ones l) (by unfold maxLen; omega) (by omega) (by simp) ?_
         intro v' w2 hown hgrow
         obtain ⟨ao5, cap5, hf5, _⟩ := own_form hown
         subst hf5
         have HK : Hid (Kept w w2) := ((But.refl _ _ w).alloc (.cells #[] 3)).grown hgrow (by intro x hx; cases hx; simp)
         have HO : Hid (w2.ownsRow w.heap.size 3 1 (.slice ao5 (0 + l.length) cap5) (0 + l.length) ([] ++ l.flatMap numC)) := hown
         clear hgrow hown)
      | go_values | go_skip | go_guarded | go_step | go_upon)
    go_ret
    have ho := HO.out
    rw [Nat.zero_add, List.nil_append] at ho
    exact ⟨_, rfl, RowO.top ho, HK.out⟩

end Go.Proofs.Ytoimpkhgdpkhkaa

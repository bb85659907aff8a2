/-
  Marks as texts, and what came in opened: by the program's numbers.
-/
import Derived.Test.YtmoaihhllfkmiaaRows
import Derived.Test.YtmoaihhllfkmiaaBase
import Derived.Deep.Slices
import Derived.Deep.Strs
namespace Go.Proofs.Ytmoaihhllfkmiaa
open Go.ChangeShapes Go.WideShapes Go.ChangeAt Go.RowKit Go.Deep

set_option maxHeartbeats 1000000 in
set_option maxRecDepth 20000 in
theorem markText (k : Nat) (hkm : k ≤ 1000000000000) (w : World) : Calls Try.prog 59 #[.int .i64 (k : Int)] w fun e w' => e = .returned (.string (mtext k)) ∧ Kept w w' := by
  by_cases hk : k = 0
  · subst hk
    go_enter Try.func59, Try.ntmps59
    go_wp2
    go_ret
    exact ⟨rfl, But.refl _ _ _⟩
  · have h1 : decide ((k : Int) ≤ 0) = false := by simp; omega
    have hcv : ∀ (u : World) (c : Int), (convert 22 9 (.slice (some ⟨u.heap.size, 0, none⟩) 1 1)).run Try.prog (u.alloc (.cells #[.int .u8 c] 5)) = .ok (.string (strOfNums [c])) (u.alloc (.cells #[.int .u8 c] 5)) := fun u c =>
      run_convert_bytes_arg _ 22 5 Try.underlying22 Try.underlying5 u.heap.size 0 1 1 [c] rfl (fun i hi => by
        obtain rfl : i = 0 := by omega
        simp [go_sem]) 9 Try.underlying9
    go_enter Try.func59, Try.ntmps59
    go_wp2
    go_loopw [0, 3] (fun i o wr => ∃ (j f : Nat) (s : ByteArray), i = .int .i64 j ∧ o = .string s ∧ s.size + j ≤ k ∧ j ≤ f ∧ digs f j s = digs k k ⟨#[]⟩ ∧ Kept w wr) (fun i o _ => (intOf i).toNat)
    case atStart => exact ⟨k, k, _, rfl, rfl, by simp [ByteArray.size], Nat.le_refl _, rfl, But.refl _ _ _⟩
    case round =>
      obtain ⟨j, f, s, rfl, rfl, hsj, hjf, hd, hkp⟩ := hrel
      have hs1 : ¬ 9223372036854775807 < 1 + s.size := by omega
      have HD : Hid (digs f j s = digs k k ⟨#[]⟩) := hd
      clear hd
      by_cases hj : j = 0
      · subst hj
        go_wp2
        go_ret
        refine ⟨?_, hkp⟩
        rw [mtext, if_neg hk, ← HD.out, digs_zero]
        rfl
      · have hj0 : (0 : Int) < j := by omega
        have hjm : (j : Int) ≤ 1000000000000 := by omega
        have HB : Hid (s.size + j ≤ k ∧ j ≤ f) := ⟨hsj, hjf⟩
        have hos := one_size (48 + (j : Int) % 10)
        clear hkm hsj hjf
        go_wp2
        obtain ⟨hsj, hjf⟩ := HB.out
        refine ⟨⟨j / 10, f - 1, _, by go_num, rfl, ?_, by omega, ?_, hkp.alloc _⟩, by simp [intOf]; omega⟩
        · rw [ByteArray.size_append, hos]
          omega
        · obtain ⟨f', rfl⟩ : ∃ f', f = f' + 1 := ⟨f - 1, by omega⟩
          rw [← HD.out]
          simp [digs, hj]

set_option maxRecDepth 100000
theorem laidOut : laidOutB Try.prog = true := by kernel_rfl

section
variable {H : Type} {enc : TypeId × Value → H} {w : World} {base : Nat} {spare : Nat → Bool} {held : Bool}

theorem open_rows {α : Type} [Inhabited α] {t e : TypeId} {k fuel : Nat} {cs : List Value} {x : DataW H × List MemPlace} (ht : Try.prog.underlying t = some (.slice e)) (hc : Try.prog.cellsOf e = k) (hk : 0 < k) (f : α → List Value) (hf : ∀ a, (f a).length = k) (Q : α → Prop)
    (each : ∀ fuel cs x, DataW.trod enc Try.prog w base spare held fuel e cs = some x → ∃ a, cs = f a ∧ Q a) (h : DataW.trod enc Try.prog w base spare held fuel t cs = some x) :
    ∃ (v : Value) (l : List α), cs = [v] ∧ RowAt w v l.length (l.flatMap f) ∧ (∀ a ∈ l, Q a) ∧ l.length ≤ maxLen := by
  rcases open_slice ht h with ⟨rfl, rfl⟩ | ⟨a, len, cap, m, n, D, Pl, rfl, hb, hl, hm, hmm, _, hel⟩
  · exact ⟨_, [], rfl, ⟨none, 0, rfl, fun j x hx => by simp at hx⟩, by simp, by unfold maxLen; simp⟩
  · have hlm : len ≤ m := by rw [hmm]; split <;> omega
    have hx : ∀ i, i < len → ∃ y, Q y ∧ ∀ j u, (f y)[j]? = some u → w.cell? (a.add (i * k + j)) = some u := by
      intro i hi
      obtain ⟨cs', h1, h2⟩ := hel i (by omega)
      obtain ⟨y, rfl, hq⟩ := each _ _ _ h2
      refine ⟨y, hq, fun j u hu => ?_⟩
      rw [hc] at h1
      have hj : j < k := by have := (List.getElem?_eq_some_iff.1 hu).1; rw [hf] at this; exact this
      have h3 := (World.cells?_some h1).2.2 j hj
      rw [add_add] at h3
      rw [h3, hu]
    obtain ⟨F, hF⟩ := choose_lt hx
    refine ⟨_, (List.range len).map F, rfl, ?_, ?_, by simp; omega⟩
    · refine ⟨some a, cap, by simp, fun j u hu => ?_⟩
      have hj : j < len * k := by
        have := (List.getElem?_eq_some_iff.1 hu).1
        rw [flat_len k f hf] at this
        simpa using this
      have hi : j / k < len := (Nat.div_lt_iff_lt_mul hk).2 hj
      have hg := flat_get k f hf ((List.range len).map F) (j / k) (j % k) (F (j / k)) (by simp [hi]) (Nat.mod_lt _ hk)
      rw [Nat.div_add_mod] at hg
      rw [hg] at hu
      have hcell := (hF (j / k) hi).2 _ _ hu
      rw [Nat.mul_comm, Nat.div_add_mod] at hcell
      obtain ⟨b, off, spot⟩ := a
      have h00 : ∃ u, (f (F 0))[0]? = some u := ⟨_, List.getElem?_eq_getElem (by rw [hf]; exact hk)⟩
      obtain ⟨u0, h00⟩ := h00
      have hspot : spot = none := by simpa [Addr.add] using World.cell?_spot ((hF 0 (Nat.lt_of_le_of_lt (Nat.zero_le _) hi)).2 0 u0 h00)
      subst hspot
      refine ⟨b, off, rfl, ?_⟩
      rw [← Go.WideShapes.add_plain]
      exact hcell
    · intro y hy
      obtain ⟨i, hi, rfl⟩ := List.mem_map.1 hy
      exact (hF i (List.mem_range.1 hi)).1

end

theorem ksame {W W' : World} (h : Kept W W') {p : MemPlace} (hp : p.block < W.heap.size) : W.sameAt W' p := by
  cases p with
  | cell b o => exact World.cell?_of_block (w := W) (h.block b hp (by omega))
  | map b => exact h.block b hp (by omega)

theorem kept_trod {H : Type} {enc : TypeId × Value → H} {t : TypeId} (hr : Try.prog.readableRec t = true) (hrow : t < Try.prog.types.size) {W W' : World} {sp : Nat → Bool} {v : Value} {d : DataW H} {ps : List MemPlace}
    (h : DataW.Trod enc Try.prog W 0 (fun _ => true) true t v d ps) (hg : Kept W W') (hlt : ∀ x ∈ ps, x.block < W.heap.size) (hs : ∀ x ∈ ps, sp x.block = true) : DataW.Trod enc Try.prog W' 0 sp true t v d ps :=
  WideElems.Trod_stays laidOut hr hrow h (fun x hx => ksame hg (hlt x hx)) hs

/-- A row's post where a call has left all that was there as it was, and answers plain data. -/
theorem post_of_kept {H : Type} {enc : TypeId × Value → H} {P : Program} {f : Func} {s : ChangeSpec} {apart fresh handsOn : Bool} {W W' : World} {args : Array Value} {v : Value} {ds gs : List (DataW H)} {before pa pv : List MemPlace}
    (hW : DataW.Whole enc P f.params.toList s.vars apart W args.toList ds gs before)
    (hres : ∀ (b : Nat) (sp : Nat → Bool) (hd : Bool), DataW.TrodAll enc P W' b sp hd f.resultTypes.toList (v.resultList f.resultTypes.size) (s.fn H (ds ++ gs)).results [])
    (hargs : ∀ sp : Nat → Bool, (∀ p ∈ before, sp p.block = true) → DataW.TrodAll enc P W' 0 sp true f.params.toList args.toList (s.fn H (ds ++ gs)).args pa)
    (hvars : ∀ sp : Nat → Bool, (∀ p ∈ before, sp p.block = true) → DataW.TrodVars enc P W' sp s.vars (s.fn H (ds ++ gs)).vars pv)
    (hk : Kept W W') : s.post enc P f apart fresh handsOn false W args v W' := by
  have hold : ∀ p ∈ before, (fun b => decide (b < W.heap.size)) p.block = true := fun p hp => by simpa using hW.lt p hp
  exact ⟨ds, gs, before, [], pa, pv, hW, hres _ _ _, hargs _ hold, hvars _ hold, World.keptBut_mono (fun _ hp => hp.elim) hk.keptBut, fun h => by cases h⟩

end Go.Proofs.Ytmoaihhllfkmiaa

/-
  A chunk put behind others; its bytes set anew.
-/
import Derived.Test.YtipgffikmnebnaaCMk21
import Derived.Test.YtipgffikmnebnaaPatP21
import Derived.Test.YtipgffikmnebnaaApp21
namespace Go.Proofs.Ytipgffikmnebnaa
open Go.ChangeShapes Go.WideShapes Go.ChangeAt Go.RowKit

set_option maxRecDepth 100000
set_option linter.unusedVariables false
set_option linter.unusedSimpArgs false
theorem app_row {W w2 : World} {lo hi : Nat} {e : TypeId} {size : Nat} {v v' : Value} {n m : Nat} {xs ys : List Value} (ho : RowO W lo hi e size v n xs) (hown : w2.ownsRow lo e size v' m ys) (hg : W.grownBy w2 v.ownBlock) :
    RowO w2 lo w2.heap.size e size v' m ys ∧ (∀ u, Kept u W → u.heap.size ≤ lo → Kept u w2) := by
  have hlo : ∀ g, v.ownBlock = some g → lo ≤ g := fun g h => (own_lt ho.1 h).1
  refine ⟨RowO.top hown, fun u hk hu => hk.grown hg (fun k h => .inl ?_)⟩
  have := hlo k h
  omega
theorem grown_but {W w2 : World} {v : Value} (hg : W.grownBy w2 v.ownBlock) : But (blo v) (bhi v) W w2 := by
  refine (But.refl _ _ W).grown hg (fun k hk => .inr ?_)
  unfold blo bhi
  rw [hk]
  simp
/-- A chunk put behind others. -/
theorem app_chunk {W w2 : World} {lo : Nat} {v v' : Value} {n : Nat} {ps : List ChunkE} {t : ChunkE} (ho : ChunkO W lo W.heap.size v ps) (hn : ps.length = n) (ht : BytO W lo W.heap.size t.2.2.1 t.2.2.2) (hap : ∀ (i : Nat) (p : ChunkE), ps[i]? = some p → Ap p.2.2.1 t.2.2.1)
    (hown : w2.ownsRow lo 108 3 v' (n + 1) (ps.flatMap chunkC ++ chunkC t)) (hg : W.grownBy w2 v.ownBlock) :
    ChunkO w2 lo w2.heap.size v' (ps ++ [t]) ∧ (∀ u, Kept u W → u.heap.size ≤ lo → Kept u w2) := by
  subst hn
  have h := app_row ho.row hown hg
  have hsz := hg.size
  refine ⟨⟨?_, fun i p hp => ?_, fun i j p p' hij hp hp' => ?_⟩, h.2⟩
  · rw [List.length_append, List.flatMap_append]
    simpa using h.1
  · rcases Nat.lt_or_ge i ps.length with hi | hi
    · rw [List.getElem?_append_left hi] at hp
      exact (RowO.apart (ho.inn i p hp) (grown_but hg) (ap_types ho.row (ho.inn i p hp) (by decide)).symm).mono (Nat.le_refl _) hsz
    · rw [List.getElem?_append_right hi] at hp
      have e : i - ps.length = 0 := by
        have := (List.getElem?_eq_some_iff.1 hp).1
        simp at this
        exact this
      rw [e] at hp
      simp at hp
      subst hp
      exact (RowO.apart ht (grown_but hg) (ap_types ho.row ht (by decide)).symm).mono (Nat.le_refl _) hsz
  · have key : ∀ (i : Nat) (p : ChunkE), (ps ++ [t])[i]? = some p → (i < ps.length ∧ ps[i]? = some p) ∨ (i = ps.length ∧ p = t) := fun i p hp => by
      rcases Nat.lt_or_ge i ps.length with hi | hi
      · rw [List.getElem?_append_left hi] at hp
        exact .inl ⟨hi, hp⟩
      · rw [List.getElem?_append_right hi] at hp
        have e : i - ps.length = 0 := by
          have := (List.getElem?_eq_some_iff.1 hp).1
          simp at this
          exact this
        rw [e] at hp
        simp at hp
        exact .inr ⟨by omega, hp.symm⟩
    rcases key i p hp with ⟨h1, h2⟩ | ⟨h1, rfl⟩
    · rcases key j p' hp' with ⟨h3, h4⟩ | ⟨h3, rfl⟩
      · exact ho.apart i j p p' hij h2 h4
      · exact hap i p h2
    · rcases key j p' hp' with ⟨h3, h4⟩ | ⟨h3, rfl⟩
      · exact (hap j p' h4).symm
      · exact absurd (h1.trans h3.symm) hij

theorem nil_chunks (w : World) (lo hi : Nat) : ChunksO w lo hi (.slice none 0 0) [] := ⟨[], ⟨⟨World.ownsRow_nil _ _ _ _, fun g hg => by simp [Value.ownBlock] at hg⟩, fun i p hp => by simp at hp, fun i j p p' _ hp => by simp at hp⟩, rfl⟩
theorem infoC : (Try.prog.info? 108).map (fun i => (i.zero, i.size, i.bytes)) = some (some (.agg #[.int .i64 0, .int .i64 0, .slice none 0 0]), 3, 40) := by kernel_rfl
theorem one_own (w : World) (b : UInt8) : BytO (w.alloc (.cells #[.int .u8 (b.toNat : Int)] 5)) w.heap.size (w.heap.size + 1) (.slice (some ⟨w.heap.size, 0, none⟩) 1 1) [b] := ⟨⟨rfl, Or.inr ⟨w.heap.size, 1, _, rfl, Nat.le_refl _, heap_alloc_new w _, Nat.le_refl _, by unfold maxLen; omega, rfl, rfl⟩⟩, fun g hg => by simp [Value.ownBlock] at hg; omega⟩
/-- A chunk with bytes of its own put behind others. -/
theorem appw_chunks {w : World} {ops : Array Oper} {rest : List Oper} {o : Oper} {a : Act} {Q : Exit → Act → World → Prop} (hgd : o.guard = none) (s x : Operand)
    (ho : o.op = .call { callee := .builtin .append, args := #[s, x], argTypes := #[43, 43] }) {lo hi0 mid : Nat} {v : Value} {ds : List ChunkD} (hs : a.eval s = v) (hown : ChunksO w lo hi0 v ds) (hh0 : hi0 ≤ mid) {b : Nat} (hx : a.eval x = .slice (some ⟨b, 0, none⟩) 1 1) (f m : Int) (sv : Value) (l : List BytD) (hL : Loc w b [.int .i64 f, .int .i64 m, sv]) (h1v : sv.oneCell' = true) (hsv : BytO w mid w.heap.size sv l) (hlm : lo ≤ mid) (hmw : mid ≤ w.heap.size) (hb : ds.length + 1 ≤ 1000000)
    (h : ∀ v' w', ChunksO w' lo w'.heap.size v' (ds ++ [(f, m, l)]) → But lo hi0 w w' → wpList Try.prog ops Q rest (a.put o.dst v') w') : wpList Try.prog ops Q (o :: rest) a w := by
  obtain ⟨ts, hh, e⟩ := hown
  have hlen := chunks_len e
  obtain ⟨i0, hi0, hz0, hz1, hz2⟩ := info_parts infoC
  obtain ⟨v', w', hr, h2, h3, -, h5⟩ := run_append_own_at (P := Try.prog) w lo 43 o.type 108 i0 (.agg #[.int .i64 0, .int .i64 0, .slice none 0 0]) 3 40 Try.underlying43 hi0 hz0 hz1 hz2 rfl (by decide) v ts.length (ts.flatMap chunkC) hh.row.1 ⟨b, 0, none⟩ 1 1 (chunkC (f, m, (sv, l))) rfl (news1 hL) (fun u hu => by simp [chunkC] at hu; rcases hu with rfl | rfl | rfl <;> first | rfl | exact h1v) (by unfold maxLen; omega) (by omega) (by omega)
  have ha := app_chunk (t := (f, m, (sv, l))) (hh.mono (Nat.le_refl _) (Nat.le_trans hh0 hmw)) rfl (hsv.mono hlm (Nat.le_refl _)) (fun i p hp => ap_low (hh.inn i p hp) hsv (.inl hh0)) h2 h3
  exact Lib.wpList_append_run w hgd s x 43 43 ho _ _ hs hx _ _ hr (h v' w' ⟨_, ha.1, by rw [List.map_append, e]; rfl⟩ (But.inner (grown_but h3) hh.row))
/-- The bytes of a chunk set anew. -/
theorem ChunkO.reset {w w' : World} {lo hi g cap m : Nat} {ps : List ChunkE} (h : ChunkO w lo hi (.slice (some ⟨g, 0, none⟩) m cap) ps) (hn : m = ps.length) (hhi : hi ≤ w.heap.size) {i : Nat} {p : ChunkE} (hp : ps[i]? = some p) {v' : Value} {l' : List BytD} (k : But (blo p.2.2.1) (bhi p.2.2.1) w w') (hk : BytO w' lo w'.heap.size v' l') (hv : v'.ownBlock = p.2.2.1.ownBlock ∨ v'.ownBlock = some w.heap.size) :
    ChunkO (w'.setCell ⟨g, i * 3 + 2, none⟩ v') lo w'.heap.size (.slice (some ⟨g, 0, none⟩) m cap) (ps.set i (p.1, p.2.1, (v', l'))) := by
  subst hn
  have hsz := k.size
  have row' : RowO w' lo hi 108 3 (.slice (some ⟨g, 0, none⟩) ps.length cap) ps.length (ps.flatMap chunkC) := RowO.apart h.row k (ap_types h.row (h.inn i p hp) (by decide))
  have hset : ∀ (z : Value) (zl : List BytD), BytO w' lo w'.heap.size z zl → BytO (w'.setCell ⟨g, i * 3 + 2, none⟩ v') lo w'.heap.size z zl := fun z zl hz =>
    RowO.apart hz (but_set w' g ps.length cap (i * 3 + 2) v') (ap_types row' hz (by decide)).symm
  have hold : ∀ (j : Nat) (z : ChunkE), j ≠ i → ps[j]? = some z → BytO w' lo w'.heap.size z.2.2.1 z.2.2.2 := fun j z hj hz =>
    (RowO.apart (h.inn j z hz) k (h.apart j i z p hj hz hp)).mono (Nat.le_refl _) (by omega)
  have hapn : ∀ (j : Nat) (z : ChunkE), j ≠ i → ps[j]? = some z → Ap z.2.2.1 v' := fun j z hj hz g' hg hg' => by
    rcases hv with h4 | h4
    · exact h.apart j i z p hj hz hp g' hg (by rw [← h4]; exact hg')
    · rw [h4] at hg'
      cases hg'
      have := (h.inn j z hz).2 _ hg
      omega
  refine ⟨?_, fun j z hz => ?_, fun j n z z' hjn hz hz' => ?_⟩
  · have := RowO.set (RowO.mono row' (Nat.le_refl _) (show hi ≤ w'.heap.size by omega)) (3 * i + 2) v'
    rw [List.length_set, Nat.mul_comm i 3]
    rw [flat_set 3 chunkC chunkC_len ps i 2 p (p.1, p.2.1, (v', l')) v' hp (by omega) rfl] at this
    simpa [World.setCell] using this
  · rcases get_set hz with ⟨_, rfl⟩ | ⟨hji, hz⟩
    · exact hset _ _ hk
    · exact hset _ _ (hold j z hji hz)
  · rcases get_set hz with ⟨h1, rfl⟩ | ⟨h1, g1⟩
    · rcases get_set hz' with ⟨h2, rfl⟩ | ⟨h2, g2⟩
      · exact absurd (h1.trans h2.symm) hjn
      · exact (hapn n z' h2 g2).symm
    · rcases get_set hz' with ⟨h2, rfl⟩ | ⟨h2, g2⟩
      · exact hapn j z h1 g1
      · exact h.apart j n z z' hjn g1 g2
theorem withB_new {out : List ChunkD} {b : UInt8} (h : out = [] ∨ ∃ d, out[out.length - 1]? = some d ∧ d.2.2 = []) : withB out b = out ++ [(0, 0, [b])] := by
  rcases h with h | ⟨d, h1, h2⟩
  · subst h; rfl
  · unfold withB
    rw [List.getLast?_eq_getElem?, h1]
    simp only [h2, if_true]
theorem withB_last {out : List ChunkD} {b : UInt8} {d : ChunkD} (h1 : out[out.length - 1]? = some d) (h2 : d.2.2 ≠ []) : withB out b = out.set (out.length - 1) (d.1, d.2.1, d.2.2 ++ [b]) := by
  unfold withB
  rw [List.getLast?_eq_getElem?, h1]
  simp only [h2, if_false]
  have hl : 0 < out.length := by have := (List.getElem?_eq_some_iff.1 h1).1; omega
  have hne : out ≠ [] := fun e => by subst e; simp at hl
  conv => rhs; rw [← List.dropLast_concat_getLast hne]
  rw [show (out.dropLast ++ [out.getLast hne]).length - 1 = out.dropLast.length by simp]
  simp

end Go.Proofs.Ytipgffikmnebnaa

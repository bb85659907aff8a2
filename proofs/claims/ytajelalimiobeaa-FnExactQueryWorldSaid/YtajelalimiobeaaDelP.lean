/-
  What slices.Delete answers for one part of a row of parts.
-/
import Derived.Test.YtajelalimiobeaaDel
namespace Go.Proofs.Ytajelalimiobeaa
open Go.ChangeShapes Go.WideShapes Go.ChangeAt Go.RowKit

theorem zeroP (w : World) : (zeroValue 89).run Try.prog w = .ok (.agg #[.string ByteArray.empty, .int .i64 0, .int .i64 0]) w := Try.zeroValue89 w

set_option maxHeartbeats 4000000 in
set_option maxRecDepth 100000 in
theorem deleteP (base g n cap i : Nat) (xs : List Value) (w : World) (hown : w.ownsRow base 89 3 (.slice (some ⟨g, 0, none⟩) n cap) n xs) (hx1 : ∀ u ∈ xs, u.oneCell' = true) (hi : i < n) (hn : n ≤ 1048576) :
    Calls Try.prog 80 #[.slice (some ⟨g, 0, none⟩) n cap, .int .i64 (i : Int), .int .i64 ((i : Int) + 1)] w fun e w' =>
      e = .returned (.slice (some ⟨g, 0, none⟩) (n - 1) cap) ∧ w'.ownsRow base 89 3 (.slice (some ⟨g, 0, none⟩) (n - 1) cap) (n - 1) (xs.take (i * 3) ++ xs.drop ((i + 1) * 3)) ∧ But g (g + 1) w w' := by
  rcases hown.2 with ⟨hv, _⟩ | ⟨g', cap', cur, hv, hbs, hgg, hnc, hcm, hsz, htk⟩
  · cases hv
  cases hv
  have hcm' : cap ≤ 9223372036854775807 := hcm
  have hxl := hown.1
  obtain ⟨i0, hi0, hz0, hz1, hz2⟩ := info_parts info89
  obtain ⟨news, hnews⟩ : ∃ news, news = xs.drop ((i + 1) * 3) := ⟨_, rfl⟩
  have hlen : news.length = (n - (i + 1)) * 3 := by rw [hnews, List.length_drop, hxl]; omega
  obtain ⟨A, hA, hsrc⟩ : ∃ A : Addr, (if cap = i + 1 then some (⟨g, 0, none⟩ : Addr) else some ⟨g, (i + 1) * 3, none⟩) = some A ∧ Hid (∀ t u, news[t]? = some u → w.drew.cell? (A.add t) = some u) := by
    by_cases h : cap = i + 1
    · refine ⟨⟨g, 0, none⟩, by simp [h], fun t u hu => ?_⟩
      have h0 : news.length = 0 := by rw [hlen]; omega
      rw [List.length_eq_zero_iff.1 h0] at hu
      simp at hu
    · refine ⟨⟨g, (i + 1) * 3, none⟩, by simp [h], fun t u hu => ?_⟩
      rw [hnews, List.getElem?_drop] at hu
      rw [Go.WideShapes.add_plain]
      obtain ⟨g2, c2, e2, _, hc2, _⟩ := own_cell hown hu
      cases e2
      exact hc2
  have s1 : Hid (news.length = (n - (i + 1)) * 3) := hlen
  have s2 : Hid (∀ u ∈ news, u.oneCell' = true) := fun u hu => hx1 u (by rw [hnews] at hu; exact List.mem_of_mem_drop hu)
  have s3 : Hid (w.drew.heap[g]? = some (.cells cur 89 (0, 0))) := hgg
  have s4 : Hid (i * 3 + news.length ≤ cur.size) := by
    show i * 3 + news.length ≤ cur.size
    rw [hlen, hsz]; omega
  obtain ⟨C1, hC1⟩ : ∃ C1, C1 = (cur.toList.take (i * 3) ++ news ++ cur.toList.drop (i * 3 + news.length)).toArray := ⟨_, rfl⟩
  obtain ⟨W1, hW1⟩ : ∃ W1, W1 = w.drew.setRow g C1 := ⟨_, rfl⟩
  have hW1g : W1.heap[g]? = some (.cells C1 89 (0, 0)) := by rw [hW1]; exact setRow_heap w.drew g cur C1 89 _ hgg
  have hC1s : C1.size = cap * 3 := by
    rw [hC1]; simp only [List.size_toArray, List.length_append, List.length_take, List.length_drop, Array.length_toList, hlen, hsz]; omega
  have hcl := fun ty c => run_clear_row (P := Try.prog) W1 34 89 ty _ Try.underlying34 zeroP g ((n - 1) * 3) c C1 hW1g [.string ByteArray.empty, .int .i64 0, .int .i64 0] rfl (by intro u hu; simp at hu; rcases hu with rfl | rfl | rfl <;> rfl) (by simp; omega)
  have X0 : W1 = w.drew.setRow g (cur.toList.take (i * 3) ++ news ++ cur.toList.drop (i * 3 + news.length)).toArray := by rw [hW1, hC1]
  have X : Hid _ := X0
  obtain ⟨C2, hC2⟩ : ∃ C2 : Array Value, C2 = (C1.toList.take ((n - 1) * 3) ++ [Value.string ByteArray.empty, Value.int .i64 0, Value.int .i64 0] ++ C1.toList.drop ((n - 1) * 3 + [Value.string ByteArray.empty, Value.int .i64 0, Value.int .i64 0].length)).toArray := ⟨_, rfl⟩
  rw [← hC2] at hcl
  have HC2 : Hid _ := hC2
  have HCL : Hid _ := hcl
  clear X0 hC2 hcl
  have hic : i ≤ cap := by omega
  have hjc : i + 1 ≤ cap := by omega
  have HO : Hid _ := hown
  have HX : Hid (C1 = (cur.toList.take (i * 3) ++ news ++ cur.toList.drop (i * 3 + news.length)).toArray ∧ W1.heap[g]? = some (.cells C1 89 (0, 0)) ∧ But g (g + 1) w W1 ∧ cur.toList.take (n * 3) = xs ∧ news = xs.drop ((i + 1) * 3) ∧ news.length = (n - (i + 1)) * 3) := ⟨hC1, hW1g, by rw [hW1]; exact ((But.refl _ _ w).drew).trans (setRow_but _ _ _), htk, hnews, hlen⟩
  have HSZ : Hid (cur.size = cap * 3 ∧ cap ≤ maxLen) := ⟨hsz, hcm⟩
  clear hW1 hW1g hC1 hnews hlen htk hgg hown hxl hz0 hz2 hx1 hcm hsz hC1s
  have hb1 : (0 : Int) ≤ (i : Int) + 1 := by omega
  have hb2 : (i : Int) + 1 ≤ (n : Int) := by omega
  have hA' : Hid _ := hA
  clear hA
  go_enter Try.func80, Try.ntmps80
  go_wp2_with fail
  go_region_law (refine step_room rfl (.tmp 22) (.tmp 25) 34 rfl 89 i0 3 Try.underlying34 hi0 hz1 g i cap cur s3.out (by simp [Act.eval, Act.put]) A (n - (i + 1)) (cap - (i + 1)) news (by simp [Act.eval, Act.put, hA'.out]) s1.out hsrc.out s2.out (by omega) s4.out ?_; rw [← X.out])
  rw [show i + (n - (i + 1)) = n - 1 by omega]
  have hcl := fun ty => HCL.out ty (cap - (n - 1))
  have h1n : n - (n - 1) = 1 := by omega
  have hn1 : n - 1 < n := by omega
  have hn2 : ((n - 1 : Nat) : Int) ≤ (n : Int) := by omega
  have hn3 : ¬ cap = n - 1 := by omega
  have HKEY : Hid ((W1.setRow g C2).ownsRow base 89 3 (.slice (some ⟨g, 0, none⟩) (n - 1) cap) (n - 1) (xs.take (i * 3) ++ xs.drop ((i + 1) * 3)) ∧ But g (g + 1) w (W1.setRow g C2)) := by
    obtain ⟨h1, h2, h3, h4, h5, h6⟩ := HX.out
    refine ⟨?_, h3.trans (setRow_but _ _ _)⟩
    rw [← h5]
    exact own_deleted hbs h2 h4 (by omega) (by rw [HSZ.out.1]; omega) h1 (by rw [h6]; omega : i * 3 + news.length = (n - 1) * 3) (by rw [HSZ.out.1]; simp; omega) HC2.out rfl (by omega) HSZ.out.2 HSZ.out.1
  clear hb1 hb2 HX HC2 HSZ X s1 s2 s3 s4 hsrc HO
  go_wp2
  all_goals
    go_ret
    first
      | exact ⟨rfl, HKEY.out⟩
      | (rw [h] at HKEY; exact ⟨rfl, HKEY.out⟩)
end Go.Proofs.Ytajelalimiobeaa

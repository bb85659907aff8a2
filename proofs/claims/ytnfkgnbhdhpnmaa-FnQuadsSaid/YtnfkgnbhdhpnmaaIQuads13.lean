/-
  All quads, in the program.
-/
import Derived.Test.YtnfkgnbhdhpnmaaILay13
import Derived.Test.YtnfkgnbhdhpnmaaIClear13
import Derived.Test.YtnfkgnbhdhpnmaaLightI13
import Derived.Test.YtnfkgnbhdhpnmaaZed13
import Derived.Maps.AppendAt
namespace Go.Proofs.Ytnfkgnbhdhpnmaa
open Go.ChangeShapes Go.WideShapes Go.ChangeAt Go.RowKit

set_option maxRecDepth 100000
set_option linter.unusedVariables false
theorem step_append_any {P : Program} {ops : Array Oper} {o : Oper} {a : Act} {w : World} {K : Act → World → Prop} {Q : Exit → Act → World → Prop} {E : Prop}
    (hg : o.guard = none) (s x : Operand) (t : TypeId) (hop : o.op = Op.call { callee := Callee.builtin Builtin.append, args := #[s, x], argTypes := #[t, t] })
    (base : Nat) (e : TypeId) (i : TypeInfo) (z : Value) (size bytes : Nat) (ht : P.underlying t = some (.slice e)) (hi : P.info? e = some i) (hz : i.zero = some z)
    (hsize : i.size = size) (hby : i.bytes = bytes) (hzs : z.cells.size = size) (hsz : 0 < size)
    (v : Value) (n : Nat) (xs : List Value) (hs : a.eval s = v) (hown : w.ownsRow base e size v n xs)
    (ao : Option Addr) (m c : Nat) (news : List Value) (hx : a.eval x = .slice ao m c) (hl : news.length = m * size) (hnews : ∀ j u, news[j]? = some u → ∃ ad, ao = some ad ∧ w.cell? (ad.add j) = some u) (h1 : ∀ u ∈ news, u.oneCell' = true)
    (h63 : n + m ≤ maxLen) (hbytes : (n + m) * bytes ≤ 140737488355328) (hbase : base ≤ w.heap.size)
    (h : ∀ v' w', w'.ownsRow base e size v' (n + m) (xs ++ news) → w.grownBy w' v.ownBlock → K (a.put o.dst v') w') :
    if Region.wanted o (yielded ops a.tmps) = true then Oper.wp P o a w K Q else E := by
  have hw : Region.wanted o (yielded ops a.tmps) = true := by simp [Region.wanted, hg]
  rw [if_pos hw]
  cases ao with
  | some ad =>
    obtain ⟨v', w', hr, h2, h3, -, -⟩ := run_append_own_at (P := P) w base t o.type e i z size bytes ht hi hz hsize hby hzs hsz v n xs hown ad m c news hl (fun j u hu => by obtain ⟨ad', e1, h2⟩ := hnews j u hu; cases e1; exact h2) h1 h63 hbytes hbase
    exact Lib.wp_append_run w s x t t hop _ _ hs hx _ _ hr (h v' w' h2 h3)
  | none =>
    have hm : news = [] := by
      cases news with
      | nil => rfl
      | cons y l => obtain ⟨ad, e1, _⟩ := hnews 0 y rfl; cases e1
    subst hm
    obtain rfl : m = 0 := by
      rcases Nat.eq_zero_or_pos m with h0 | h0
      · exact h0
      · have := Nat.mul_pos h0 hsz
        simp at hl
        omega
    obtain ⟨ao', cap', hf, _⟩ := own_form hown
    have hcap : n ≤ cap' := by
      rcases hown.2 with ⟨hv, h0⟩ | ⟨g', c', cur, hv, _, _, hnc, _⟩
      · omega
      · rw [hf] at hv; cases hv; exact hnc
    have h2 := h v w (by simpa using hown) (World.grownBy.refl _ _)
    subst hf
    exact Lib.wp_append_run w s x t t hop _ _ hs hx _ _ (run_append_none w t o.type e i ht hi ao' n cap' c hcap) h2
theorem quad_src {w : World} {ao : Option Addr} {n cap : Nat} {ps : List QuadD} (h : QuadAt w (.slice ao n cap) ps) : ∀ j u, (ps.flatMap quadC)[j]? = some u → ∃ ad, ao = some ad ∧ w.cell? (ad.add j) = some u := fun j u hj => by
  obtain ⟨ao', cap', e, hc⟩ := h
  cases e
  obtain ⟨b, o, e2, h2⟩ := hc j u hj
  exact ⟨⟨b, o, none⟩, e2, by rw [Go.WideShapes.add_plain]; exact h2⟩
theorem quad_ones (l : List QuadD) : ∀ u ∈ l.flatMap quadC, u.oneCell' = true := fun u hu => by
  obtain ⟨p, _, h⟩ := List.mem_flatMap.1 hu
  simp [quadC] at h
  rcases h with rfl | rfl | rfl | rfl | rfl | rfl | rfl <;> rfl
theorem fd_at (x y : Value) (W : World) : (Instr.field 57 (.agg #[x, y]) 0).run Try.prog W = .ok x W := by kernel_rfl
set_option maxHeartbeats 16000000 in
theorem iquads (a b d : Int) (l : List Int) (ao : Option Addr) (cap : Nat) (w : World) (hv : NumAt w (.slice ao l.length cap) l) (hl : l.length ≤ 1048576) :
    Calls Try.prog 12 #[.agg #[.int .i64 a, .int .i64 b, .int .i64 d, .slice ao l.length cap]] w fun e w' => ∃ v', e = .returned (.tuple #[v', .bool (quadsA a b d l).2]) ∧ QuadO w' w.heap.size w'.heap.size v' (quadsA a b d l).1 ∧ Kept w w' := by
  by_cases hg : BlocksP a b d l
  · have dg : decide (BlocksP a b d l) = true := decide_eq_true hg
    rw [show quadsA a b d l = (quadsL a.toNat b.toNat d.toNat l 6, true) from if_pos hg]
    obtain ⟨A, rfl⟩ := Int.eq_ofNat_of_zero_le (show 0 ≤ a by have := hg.1; omega)
    obtain ⟨B, rfl⟩ := Int.eq_ofNat_of_zero_le (show 0 ≤ b by have := hg.2.1; omega)
    obtain ⟨D, rfl⟩ := Int.eq_ofNat_of_zero_le (show 0 ≤ d by have := hg.2.2.1; omega)
    simp only [Int.toNat_natCast]
    have HG : Hid (BlocksP (A : Int) (B : Int) (D : Int) l) := hg
    have hdim : (1 ≤ A ∧ A ≤ 8) ∧ (1 ≤ B ∧ B ≤ 8) ∧ (1 ≤ D ∧ D ≤ 8) := by have h1 := hg.1; have h2 := hg.2.1; have h3 := hg.2.2.1; omega
    clear hg
    go_enter Try.func12, Try.ntmps12
    repeat (first | (go_at_call 19; refine (igood _ _ _ _ _ _ _ (hv.kept ((But.refl _ _ _).alloc _)) (by omega)).mono ?_; rintro e u1 ⟨rfl, k1⟩; rw [dg]; have K1 : Kept w u1 := ((But.refl _ _ _).alloc _).trans k1; have L1 := (Loc.new w [.int .i64 (A : Int), .int .i64 (B : Int), .int .i64 (D : Int), .slice ao l.length cap] 25).kept k1; have v0 := L1.cell 0 rfl; have v1 := L1.cell 1 rfl; have v2 := L1.cell 2 rfl; have v3 := L1.cell 3 rfl; have vl := L1.lt; (try dsimp only)) | go_values | go_skip | go_guarded | go_step | go_upon)
    obtain ⟨W1, hW1⟩ : ∃ W, W = u1.alloc (.cells (tkL fun _ => false).toArray 55) := ⟨_, rfl⟩
    have kW : Kept u1 W1 := by rw [hW1]; exact (But.refl _ _ _).alloc _
    obtain ⟨T, hT⟩ : ∃ T, T = u1.heap.size := ⟨_, rfl⟩
    have HT1 : Hid (Loc W1 T (tkL fun _ => false)) := by show Loc _ _ _; rw [hW1, hT]; exact Loc.new _ _ _
    have HLB : Hid (Loc W1 w.heap.size [.int .i64 (A : Int), .int .i64 (B : Int), .int .i64 (D : Int), .slice ao l.length cap]) := L1.kept kW
    have HKW : Hid (Kept w W1) := K1.trans kW
    have hwT : w.heap.size < T := by rw [hT]; exact vl
    have hTW : T < W1.heap.size := HT1.out.lt
    rw [show u1.alloc (.cells #[.bool false, .bool false, .bool false, .bool false, .bool false, .bool false, .bool false, .bool false, .bool false, .bool false, .bool false, .bool false, .bool false, .bool false, .bool false, .bool false, .bool false, .bool false, .bool false, .bool false, .bool false, .bool false, .bool false, .bool false, .bool false, .bool false, .bool false, .bool false, .bool false, .bool false, .bool false, .bool false, .bool false, .bool false, .bool false, .bool false, .bool false, .bool false, .bool false, .bool false, .bool false, .bool false, .bool false, .bool false, .bool false, .bool false, .bool false, .bool false, .bool false, .bool false, .bool false, .bool false, .bool false, .bool false, .bool false, .bool false, .bool false, .bool false, .bool false, .bool false, .bool false, .bool false, .bool false, .bool false] 55) = W1 from by rw [hW1]; rfl, ← hT]
    clear hW1 kW K1 L1 k1 vl hT v0 v1 v2 v3
    obtain ⟨i0, hi0, hz0, hz1, hz2⟩ := info_parts info_quad
    go_loopw [4, 11] (fun x i wr => ∃ (way m : Nat) (ao' : Option Addr) (c' : Nat), way ≤ 6 ∧ i = .int .i64 way ∧ Hid (m = (quadsL A B D l way).length) ∧ x = .slice ao' m c' ∧ Hid (wr.ownsRow W1.heap.size 33 7 (.slice ao' m c') m ((quadsL A B D l way).flatMap quadC)) ∧ Hid (∃ tk, Loc wr T (tkL tk)) ∧ Hid (But T (T + 1) W1 wr)) (fun _ i _ => 6 - (intOf i).toNat)
    case atStart => exact ⟨0, 0, none, 0, by omega, rfl, by show 0 = _; simp [quadsL], rfl, World.ownsRow_nil _ _ _ _, ⟨_, HT1.out⟩, But.refl _ _ _⟩
    case round =>
      clear HT1
      rename World => wa
      obtain ⟨way, m, ao', c', hway, rfl, HM, rfl, HO, HT, HK⟩ := hrel
      by_cases hlw : way < 6
      · have dw : decide ((way : Int) < 6) = true := by simp; omega
        have LBA := HLB.out.but HK.out (.inl (by omega))
        have v0 := LBA.cell 0 rfl
        have v1 := LBA.cell 1 rfl
        have v2 := LBA.cell 2 rfl
        have v3 := LBA.cell 3 rfl
        have vl := LBA.lt
        have HAX : Hid (∀ x : World, Calls Try.prog 40 #[.agg #[.int .i64 (A : Int), .int .i64 (B : Int), .int .i64 (D : Int), .slice ao l.length cap]] x fun e w' => e = .returned (.agg #[.int .i64 (A : Int), .int .i64 1, .int .i64 (B : Int), .int .i64 (A : Int), .int .i64 (D : Int), .int .i64 ((A : Int) * (B : Int))]) ∧ Kept x w') := fun x => iaxes _ _ _ _ x HG.out.edge
        have htd : (way : Int).tdiv 2 = ((way / 2 : Nat) : Int) := by rw [Int.tdiv_eq_ediv_of_nonneg (by omega)]; omega
        obtain hax | hax | hax : way / 2 = 0 ∨ way / 2 = 1 ∨ way / 2 = 2 := by omega
        · have e1 : sideN A B D way = A := by unfold sideN; first | rw [if_pos (by omega)] | rw [if_neg (by omega), if_pos (by omega)] | rw [if_neg (by omega), if_neg (by omega)]
          rw [hax] at htd
          clear hax
          have hfd := fun W => fd_at (.int .i64 (A : Int)) (.int .i64 1) W
          have hix := fun W => (ix_at (.int .i64 (A : Int)) (.int .i64 1) (.int .i64 (B : Int)) (.int .i64 (A : Int)) (.int .i64 (D : Int)) (.int .i64 ((A : Int) * (B : Int))) W).1
          repeat (first | (go_at_call 40; refine (HAX.out _).mono ?_; rintro e y1 ⟨rfl, k1⟩; clear v0 v1 v2 v3 vl; (try dsimp only)) | go_values | go_skip | go_guarded | go_step | go_upon)
          clear hix htd hfd
          have HT1 : Hid (∃ tk, Loc y1 T (tkL tk)) := by obtain ⟨tk, h⟩ := HT.out; exact ⟨tk, h.kept k1⟩
          have HK1 : Hid (But T (T + 1) W1 y1) := HK.out.transK k1
          have HO1 : Hid (y1.ownsRow W1.heap.size 33 7 (.slice ao' m c') m ((quadsL A B D l way ++ quadsW A B D l way 0).flatMap quadC)) := by show World.ownsRow _ _ _ _ _ _ _; have h := own_kept HO.out k1; simpa [quadsW] using h
          have HM1 : Hid (m = (quadsL A B D l way ++ quadsW A B D l way 0).length) := by show m = _; rw [HM.out]; simp [quadsW]
          clear HT HK HO HM k1 LBA
          go_loopw [4, 20] (fun x i wr => ∃ (at_ m : Nat) (ao' : Option Addr) (c' : Nat), at_ ≤ A ∧ i = .int .i64 at_ ∧ Hid (m = (quadsL A B D l way ++ quadsW A B D l way at_).length) ∧ x = .slice ao' m c' ∧ Hid (wr.ownsRow W1.heap.size 33 7 (.slice ao' m c') m ((quadsL A B D l way ++ quadsW A B D l way at_).flatMap quadC)) ∧ Hid (∃ tk, Loc wr T (tkL tk)) ∧ Hid (But T (T + 1) W1 wr)) (fun _ i _ => A - (intOf i).toNat)
          case atStart => exact ⟨0, m, ao', c', by omega, rfl, HM1, rfl, HO1, HT1, HK1⟩
          case round =>
            clear HT1 HK1 HO1 HM1
            rename World => wb
            obtain ⟨at_, m, ao', c', hat, rfl, HM, rfl, HO, HT, HK⟩ := hrel
            by_cases hla : at_ < A
            · have da : decide ((at_ : Int) < (A : Int)) = true := by simp; omega
              obtain ⟨tk, htk⟩ := HT.out
              have hcl := run_clear_flags htk
              obtain ⟨hcf, hcb⟩ := clear_flags htk
              obtain ⟨Y, hY⟩ : ∃ Y, Y = wb.setCells T 0 (List.replicate 64 (.bool false)) := ⟨_, rfl⟩
              rw [← hY] at hcl hcf hcb
              clear hY htk
              repeat (first | go_values | go_skip | go_guarded | go_step | go_upon)
              have HKY : Hid (But T (T + 1) W1 Y) := HK.out.trans hcb
              have HOY : Hid (Y.ownsRow W1.heap.size 33 7 (.slice ao' m c') m ((quadsL A B D l way ++ quadsW A B D l way at_).flatMap quadC)) := own_but HO.out hcb (fun g hg => by have := own_lt HO.out hg; omega)
              have HQL : Hid (∀ x : World, Kept Y x → Calls Try.prog 41 #[.agg #[.int .i64 (A : Int), .int .i64 (B : Int), .int .i64 (D : Int), .slice ao l.length cap, .int .i64 (way : Int), .int .i64 (at_ : Int), .slice (some ⟨T, 0, none⟩) 64 64]] x fun e w' => ∃ r, e = .returned r ∧ QuadO w' x.heap.size w'.heap.size r (layQ way at_ (usN A B way) (face A B D l way at_) (usN A B way * vsN B D way)).2 ∧ (∃ tk, Loc w' T (tkL tk)) ∧ But T (T + 1) x w') := fun x hx => ilayL A B D way at_ T l ao cap w x HG.out hlw (by rw [e1]; exact hla) hv ((HKW.out.onto HKY.out (by omega)).trans hx) (by omega) (hcf.kept hx) hl
              have LBY := HLB.out.but HKY.out (.inl (by omega))
              have v0 := LBY.cell 0 rfl
              have v1 := LBY.cell 1 rfl
              have v2 := LBY.cell 2 rfl
              have v3 := LBY.cell 3 rfl
              have vl := LBY.lt
              clear hcl hcb
              have HS : Hid (∀ w' : World, But T (T + 1) Y w' → w'.cell? ⟨w.heap.size, 0, none⟩ = some (.int .i64 (A : Int)) ∧ w'.cell? ⟨w.heap.size, 1, none⟩ = some (.int .i64 (B : Int)) ∧ w'.cell? ⟨w.heap.size, 2, none⟩ = some (.int .i64 (D : Int)) ∧ w'.cell? ⟨w.heap.size, 3, none⟩ = some (.slice ao l.length cap)) := fun w' k => ⟨k.cell v0 (.inl hwT), k.cell v1 (.inl hwT), k.cell v2 (.inl hwT), k.cell v3 (.inl hwT)⟩
              refine wp_region_Z (fun w' => w'.cell? ⟨w.heap.size, 0, none⟩ = some (.int .i64 (A : Int)) ∧ w'.cell? ⟨w.heap.size, 1, none⟩ = some (.int .i64 (B : Int)) ∧ w'.cell? ⟨w.heap.size, 2, none⟩ = some (.int .i64 (D : Int)) ∧ w'.cell? ⟨w.heap.size, 3, none⟩ = some (.slice ao l.length cap)) 8 (by kernel_rfl) ?_
              have hS : (fun w' => w'.cell? ⟨w.heap.size, 0, none⟩ = some (.int .i64 (A : Int)) ∧ w'.cell? ⟨w.heap.size, 1, none⟩ = some (.int .i64 (B : Int)) ∧ w'.cell? ⟨w.heap.size, 2, none⟩ = some (.int .i64 (D : Int)) ∧ w'.cell? ⟨w.heap.size, 3, none⟩ = some (.slice ao l.length cap)) Y.drew := HS.out _ ((But.refl _ _ _).drew)
              refine wpAnyZ_take (i := 0) (v := .slice ao' m c') rfl (by kernel_rfl) (by kernel_rfl) (by kernel_rfl) (by kernel_rfl) (fun _ _ _ h => h) (Or.inl ⟨by rfl, ?_⟩) hS ?_
              · intro w' hSw; obtain ⟨s0, s1, s2, s3⟩ := hSw; go_simp
              try simp only [Act.put]
              refine wpAnyZ_take (i := 1) (v := .agg #[.int .i64 (A : Int), .int .i64 (B : Int), .int .i64 (D : Int), .slice ao l.length cap]) rfl (by kernel_rfl) (by kernel_rfl) (by kernel_rfl) (by kernel_rfl) (fun _ _ _ h => h) (Or.inl ⟨by rfl, ?_⟩) hS ?_
              · intro w' hSw; obtain ⟨s0, s1, s2, s3⟩ := hSw; go_simp
              try simp only [Act.put]
              refine wpAnyZ_take (i := 2) (v := .int .i64 (way : Int)) rfl (by kernel_rfl) (by kernel_rfl) (by kernel_rfl) (by kernel_rfl) (fun _ _ _ h => h) (Or.inl ⟨by rfl, ?_⟩) hS ?_
              · intro w' hSw; obtain ⟨s0, s1, s2, s3⟩ := hSw; go_simp
              try simp only [Act.put]
              refine wpAnyZ_take (i := 3) (v := .int .i64 (at_ : Int)) rfl (by kernel_rfl) (by kernel_rfl) (by kernel_rfl) (by kernel_rfl) (fun _ _ _ h => h) (Or.inl ⟨by rfl, ?_⟩) hS ?_
              · intro w' hSw; obtain ⟨s0, s1, s2, s3⟩ := hSw; go_simp
              try simp only [Act.put]
              refine wpAnyZ_take (i := 4) (v := .slice (some ⟨T, 0, none⟩) 64 64) rfl (by kernel_rfl) (by kernel_rfl) (by kernel_rfl) (by kernel_rfl) (fun _ _ _ h => h) (Or.inl ⟨by rfl, ?_⟩) hS ?_
              · intro w' hSw; obtain ⟨s0, s1, s2, s3⟩ := hSw; go_simp
              try simp only [Act.put]
              refine wpAnyZ_take (i := 5) (v := .agg #[.int .i64 (A : Int), .int .i64 (B : Int), .int .i64 (D : Int), .slice ao l.length cap, .int .i64 (way : Int), .int .i64 (at_ : Int), .slice (some ⟨T, 0, none⟩) 64 64]) rfl (by kernel_rfl) (by kernel_rfl) (by kernel_rfl) (by kernel_rfl) (fun _ _ _ h => h) (Or.inl ⟨by rfl, ?_⟩) hS ?_
              · intro w' hSw; obtain ⟨s0, s1, s2, s3⟩ := hSw; go_simp
              try simp only [Act.put]
              refine wpAnyZ_one (i := 6) (by kernel_rfl) rfl ?_
              intro K hK
              rw [if_pos (by rfl)]
              go_simp
              go_at_call 41
              refine (HQL.out _ ((But.refl _ _ _).drew)).mono ?_
              rintro e y2 ⟨r, rfl, o2, t2, b2⟩
              have KQ : But T (T + 1) Y y2 := ((But.refl _ _ _).drew).trans b2
              obtain ⟨ao2, cq2, hf2, _⟩ := own_form o2.1
              subst hf2
              clear hS
              dsimp only
              refine hK.out _ _ (fun _ => HS.out _ KQ) ?_
              clear hK K
              try simp only [Act.put]
              have hlq := layQ_len (way := way) (at_ := at_) (us := usN A B way) (G0 := face A B D l way at_) (usN A B way * vsN B D way)
              obtain ⟨hu8, hv8, -⟩ := dims_le hdim.1.2 hdim.2.1.2 hdim.2.2.2 way
              have huv : usN A B way * vsN B D way ≤ 64 := Nat.le_trans (Nat.mul_le_mul hu8 hv8) (by omega)
              have hm3 : m ≤ 3584 := by rw [HM.out, List.length_append]; have h1 := quadsL_len hdim.1.2 hdim.2.1.2 hdim.2.2.2 l way; have h2 := quadsW_len hdim.1.2 hdim.2.1.2 hdim.2.2.2 l way at_; omega
              have hys := KQ.size
              have hWY := HKY.out.size
              obtain ⟨LQ, hLQ⟩ : ∃ q, (layQ way at_ (usN A B way) (face A B D l way at_) (usN A B way * vsN B D way)).2 = q := ⟨_, rfl⟩
              have HLQ : Hid ((layQ way at_ (usN A B way) (face A B D l way at_) (usN A B way * vsN B D way)).2 = LQ) := hLQ
              rw [hLQ] at o2 hlq ⊢
              have HO2 : Hid (QuadO y2 Y.drew.heap.size y2.heap.size (.slice ao2 LQ.length cq2) LQ) := o2
              have hO1 : y2.ownsRow W1.heap.size 33 7 (.slice ao' m c') m ((quadsL A B D l way ++ quadsW A B D l way at_).flatMap quadC) := own_but HOY.out KQ (fun g hg => by have := own_lt HOY.out hg; omega)
              clear hLQ o2
              refine wpAnyZ_one (i := 7) (by kernel_rfl) rfl ?_
              intro K hK
              refine step_append_any rfl (.tmp 24) (.tmp 30) 27 rfl W1.heap.size 33 i0 (.agg #[.int .i64 0, .int .i64 0, .int .i64 0, .int .i64 0, .int .i64 0, .int .i64 0, .int .i64 0]) 7 56 Try.underlying27 hi0 hz0 hz1 hz2 rfl (by decide) (.slice ao' m c') m ((quadsL A B D l way ++ quadsW A B D l way at_).flatMap quadC) (by simp [Act.eval]) hO1 ao2 LQ.length cq2 (LQ.flatMap quadC) (by simp [Act.eval]) (flat_len 7 quadC quadC_len LQ) (quad_src HO2.out.at) (quad_ones LQ) (by unfold maxLen; omega) (by omega) (by omega) ?_
              intro v3 w3 hown hgrow
              obtain ⟨ao3, cp3, hf3, _⟩ := own_form hown
              subst hf3
              have K3 : But T (T + 1) W1 w3 := (HKY.out.trans KQ).grown hgrow (fun k hk => .inl (own_lt hO1 hk).1)
              have HK3 : Hid (But T (T + 1) W1 w3) := K3
              have HT3 : Hid (∃ tk, Loc w3 T (tkL tk)) := by obtain ⟨tk, h⟩ := t2; exact ⟨tk, h.grown hgrow (fun e => by have := own_lt hO1 e; omega)⟩
              have HO3 : Hid (w3.ownsRow W1.heap.size 33 7 (.slice ao3 (m + LQ.length) cp3) (m + LQ.length) ((quadsL A B D l way ++ quadsW A B D l way at_).flatMap quadC ++ LQ.flatMap quadC)) := hown
              have LB3 := HLB.out.but K3 (.inl (by omega))
              have a0 := LB3.cell 0 rfl
              have a1 := LB3.cell 1 rfl
              have a2 := LB3.cell 2 rfl
              have a3 := LB3.cell 3 rfl
              refine hK.out _ _ (fun _ => ⟨a0, a1, a2, a3⟩) ?_
              clear hK K hown hgrow K3 LB3 hO1 t2 b2 KQ v0 v1 v2 v3 HS HQL
              try simp only [Act.put]
              refine wpAnyZ_one (i := 8) (by kernel_rfl) rfl ?_
              intro K hK
              rw [if_pos (by rfl)]
              go_simp
              refine hK.out _ _ (fun h => absurd rfl h) ?_
              clear hK K
              refine wpAnyZ_done (by kernel_rfl) ?_ _
              try simp only [Act.put]
              repeat (first | go_values | go_skip | go_guarded | go_step | go_upon)
              refine ⟨⟨at_ + 1, m + LQ.length, ao3, cp3, hla, by go_num, ?_, rfl, ?_, HT3, HK3⟩, by simp [intOf]; omega⟩
              · show m + LQ.length = _
                rw [quadsW_succ, HLQ.out, HM.out]
                simp only [List.length_append]
                omega
              · show World.ownsRow _ _ _ _ _ _ _
                rw [quadsW_succ, HLQ.out, ← List.append_assoc, List.flatMap_append]
                exact HO3.out
            · have hae : at_ = A := by omega
              have da : decide ((at_ : Int) < (A : Int)) = false := by simp; omega
              repeat (first | go_values | go_skip | go_guarded | go_step | go_upon)
              refine ⟨⟨way + 1, m, ao', c', hlw, by go_num, ?_, rfl, ?_, HT, HK⟩, by simp [intOf]; omega⟩
              · show m = _
                have h := HM.out; rw [hae] at h; rw [quadsL_succ, e1]; exact h
              · show World.ownsRow _ _ _ _ _ _ _
                have h := HO.out; rw [hae] at h; rw [quadsL_succ, e1]; exact h
        · have e1 : sideN A B D way = B := by unfold sideN; first | rw [if_pos (by omega)] | rw [if_neg (by omega), if_pos (by omega)] | rw [if_neg (by omega), if_neg (by omega)]
          rw [hax] at htd
          clear hax
          have hfd := fun W => fd_at (.int .i64 (B : Int)) (.int .i64 (A : Int)) W
          have hix := fun W => (ix_at (.int .i64 (A : Int)) (.int .i64 1) (.int .i64 (B : Int)) (.int .i64 (A : Int)) (.int .i64 (D : Int)) (.int .i64 ((A : Int) * (B : Int))) W).2.1
          repeat (first | (go_at_call 40; refine (HAX.out _).mono ?_; rintro e y1 ⟨rfl, k1⟩; clear v0 v1 v2 v3 vl; (try dsimp only)) | go_values | go_skip | go_guarded | go_step | go_upon)
          clear hix htd hfd
          have HT1 : Hid (∃ tk, Loc y1 T (tkL tk)) := by obtain ⟨tk, h⟩ := HT.out; exact ⟨tk, h.kept k1⟩
          have HK1 : Hid (But T (T + 1) W1 y1) := HK.out.transK k1
          have HO1 : Hid (y1.ownsRow W1.heap.size 33 7 (.slice ao' m c') m ((quadsL A B D l way ++ quadsW A B D l way 0).flatMap quadC)) := by show World.ownsRow _ _ _ _ _ _ _; have h := own_kept HO.out k1; simpa [quadsW] using h
          have HM1 : Hid (m = (quadsL A B D l way ++ quadsW A B D l way 0).length) := by show m = _; rw [HM.out]; simp [quadsW]
          clear HT HK HO HM k1 LBA
          go_loopw [4, 20] (fun x i wr => ∃ (at_ m : Nat) (ao' : Option Addr) (c' : Nat), at_ ≤ B ∧ i = .int .i64 at_ ∧ Hid (m = (quadsL A B D l way ++ quadsW A B D l way at_).length) ∧ x = .slice ao' m c' ∧ Hid (wr.ownsRow W1.heap.size 33 7 (.slice ao' m c') m ((quadsL A B D l way ++ quadsW A B D l way at_).flatMap quadC)) ∧ Hid (∃ tk, Loc wr T (tkL tk)) ∧ Hid (But T (T + 1) W1 wr)) (fun _ i _ => B - (intOf i).toNat)
          case atStart => exact ⟨0, m, ao', c', by omega, rfl, HM1, rfl, HO1, HT1, HK1⟩
          case round =>
            clear HT1 HK1 HO1 HM1
            rename World => wb
            obtain ⟨at_, m, ao', c', hat, rfl, HM, rfl, HO, HT, HK⟩ := hrel
            by_cases hla : at_ < B
            · have da : decide ((at_ : Int) < (B : Int)) = true := by simp; omega
              obtain ⟨tk, htk⟩ := HT.out
              have hcl := run_clear_flags htk
              obtain ⟨hcf, hcb⟩ := clear_flags htk
              obtain ⟨Y, hY⟩ : ∃ Y, Y = wb.setCells T 0 (List.replicate 64 (.bool false)) := ⟨_, rfl⟩
              rw [← hY] at hcl hcf hcb
              clear hY htk
              repeat (first | go_values | go_skip | go_guarded | go_step | go_upon)
              have HKY : Hid (But T (T + 1) W1 Y) := HK.out.trans hcb
              have HOY : Hid (Y.ownsRow W1.heap.size 33 7 (.slice ao' m c') m ((quadsL A B D l way ++ quadsW A B D l way at_).flatMap quadC)) := own_but HO.out hcb (fun g hg => by have := own_lt HO.out hg; omega)
              have HQL : Hid (∀ x : World, Kept Y x → Calls Try.prog 41 #[.agg #[.int .i64 (A : Int), .int .i64 (B : Int), .int .i64 (D : Int), .slice ao l.length cap, .int .i64 (way : Int), .int .i64 (at_ : Int), .slice (some ⟨T, 0, none⟩) 64 64]] x fun e w' => ∃ r, e = .returned r ∧ QuadO w' x.heap.size w'.heap.size r (layQ way at_ (usN A B way) (face A B D l way at_) (usN A B way * vsN B D way)).2 ∧ (∃ tk, Loc w' T (tkL tk)) ∧ But T (T + 1) x w') := fun x hx => ilayL A B D way at_ T l ao cap w x HG.out hlw (by rw [e1]; exact hla) hv ((HKW.out.onto HKY.out (by omega)).trans hx) (by omega) (hcf.kept hx) hl
              have LBY := HLB.out.but HKY.out (.inl (by omega))
              have v0 := LBY.cell 0 rfl
              have v1 := LBY.cell 1 rfl
              have v2 := LBY.cell 2 rfl
              have v3 := LBY.cell 3 rfl
              have vl := LBY.lt
              clear hcl hcb
              have HS : Hid (∀ w' : World, But T (T + 1) Y w' → w'.cell? ⟨w.heap.size, 0, none⟩ = some (.int .i64 (A : Int)) ∧ w'.cell? ⟨w.heap.size, 1, none⟩ = some (.int .i64 (B : Int)) ∧ w'.cell? ⟨w.heap.size, 2, none⟩ = some (.int .i64 (D : Int)) ∧ w'.cell? ⟨w.heap.size, 3, none⟩ = some (.slice ao l.length cap)) := fun w' k => ⟨k.cell v0 (.inl hwT), k.cell v1 (.inl hwT), k.cell v2 (.inl hwT), k.cell v3 (.inl hwT)⟩
              refine wp_region_Z (fun w' => w'.cell? ⟨w.heap.size, 0, none⟩ = some (.int .i64 (A : Int)) ∧ w'.cell? ⟨w.heap.size, 1, none⟩ = some (.int .i64 (B : Int)) ∧ w'.cell? ⟨w.heap.size, 2, none⟩ = some (.int .i64 (D : Int)) ∧ w'.cell? ⟨w.heap.size, 3, none⟩ = some (.slice ao l.length cap)) 8 (by kernel_rfl) ?_
              have hS : (fun w' => w'.cell? ⟨w.heap.size, 0, none⟩ = some (.int .i64 (A : Int)) ∧ w'.cell? ⟨w.heap.size, 1, none⟩ = some (.int .i64 (B : Int)) ∧ w'.cell? ⟨w.heap.size, 2, none⟩ = some (.int .i64 (D : Int)) ∧ w'.cell? ⟨w.heap.size, 3, none⟩ = some (.slice ao l.length cap)) Y.drew := HS.out _ ((But.refl _ _ _).drew)
              refine wpAnyZ_take (i := 0) (v := .slice ao' m c') rfl (by kernel_rfl) (by kernel_rfl) (by kernel_rfl) (by kernel_rfl) (fun _ _ _ h => h) (Or.inl ⟨by rfl, ?_⟩) hS ?_
              · intro w' hSw; obtain ⟨s0, s1, s2, s3⟩ := hSw; go_simp
              try simp only [Act.put]
              refine wpAnyZ_take (i := 1) (v := .agg #[.int .i64 (A : Int), .int .i64 (B : Int), .int .i64 (D : Int), .slice ao l.length cap]) rfl (by kernel_rfl) (by kernel_rfl) (by kernel_rfl) (by kernel_rfl) (fun _ _ _ h => h) (Or.inl ⟨by rfl, ?_⟩) hS ?_
              · intro w' hSw; obtain ⟨s0, s1, s2, s3⟩ := hSw; go_simp
              try simp only [Act.put]
              refine wpAnyZ_take (i := 2) (v := .int .i64 (way : Int)) rfl (by kernel_rfl) (by kernel_rfl) (by kernel_rfl) (by kernel_rfl) (fun _ _ _ h => h) (Or.inl ⟨by rfl, ?_⟩) hS ?_
              · intro w' hSw; obtain ⟨s0, s1, s2, s3⟩ := hSw; go_simp
              try simp only [Act.put]
              refine wpAnyZ_take (i := 3) (v := .int .i64 (at_ : Int)) rfl (by kernel_rfl) (by kernel_rfl) (by kernel_rfl) (by kernel_rfl) (fun _ _ _ h => h) (Or.inl ⟨by rfl, ?_⟩) hS ?_
              · intro w' hSw; obtain ⟨s0, s1, s2, s3⟩ := hSw; go_simp
              try simp only [Act.put]
              refine wpAnyZ_take (i := 4) (v := .slice (some ⟨T, 0, none⟩) 64 64) rfl (by kernel_rfl) (by kernel_rfl) (by kernel_rfl) (by kernel_rfl) (fun _ _ _ h => h) (Or.inl ⟨by rfl, ?_⟩) hS ?_
              · intro w' hSw; obtain ⟨s0, s1, s2, s3⟩ := hSw; go_simp
              try simp only [Act.put]
              refine wpAnyZ_take (i := 5) (v := .agg #[.int .i64 (A : Int), .int .i64 (B : Int), .int .i64 (D : Int), .slice ao l.length cap, .int .i64 (way : Int), .int .i64 (at_ : Int), .slice (some ⟨T, 0, none⟩) 64 64]) rfl (by kernel_rfl) (by kernel_rfl) (by kernel_rfl) (by kernel_rfl) (fun _ _ _ h => h) (Or.inl ⟨by rfl, ?_⟩) hS ?_
              · intro w' hSw; obtain ⟨s0, s1, s2, s3⟩ := hSw; go_simp
              try simp only [Act.put]
              refine wpAnyZ_one (i := 6) (by kernel_rfl) rfl ?_
              intro K hK
              rw [if_pos (by rfl)]
              go_simp
              go_at_call 41
              refine (HQL.out _ ((But.refl _ _ _).drew)).mono ?_
              rintro e y2 ⟨r, rfl, o2, t2, b2⟩
              have KQ : But T (T + 1) Y y2 := ((But.refl _ _ _).drew).trans b2
              obtain ⟨ao2, cq2, hf2, _⟩ := own_form o2.1
              subst hf2
              clear hS
              dsimp only
              refine hK.out _ _ (fun _ => HS.out _ KQ) ?_
              clear hK K
              try simp only [Act.put]
              have hlq := layQ_len (way := way) (at_ := at_) (us := usN A B way) (G0 := face A B D l way at_) (usN A B way * vsN B D way)
              obtain ⟨hu8, hv8, -⟩ := dims_le hdim.1.2 hdim.2.1.2 hdim.2.2.2 way
              have huv : usN A B way * vsN B D way ≤ 64 := Nat.le_trans (Nat.mul_le_mul hu8 hv8) (by omega)
              have hm3 : m ≤ 3584 := by rw [HM.out, List.length_append]; have h1 := quadsL_len hdim.1.2 hdim.2.1.2 hdim.2.2.2 l way; have h2 := quadsW_len hdim.1.2 hdim.2.1.2 hdim.2.2.2 l way at_; omega
              have hys := KQ.size
              have hWY := HKY.out.size
              obtain ⟨LQ, hLQ⟩ : ∃ q, (layQ way at_ (usN A B way) (face A B D l way at_) (usN A B way * vsN B D way)).2 = q := ⟨_, rfl⟩
              have HLQ : Hid ((layQ way at_ (usN A B way) (face A B D l way at_) (usN A B way * vsN B D way)).2 = LQ) := hLQ
              rw [hLQ] at o2 hlq ⊢
              have HO2 : Hid (QuadO y2 Y.drew.heap.size y2.heap.size (.slice ao2 LQ.length cq2) LQ) := o2
              have hO1 : y2.ownsRow W1.heap.size 33 7 (.slice ao' m c') m ((quadsL A B D l way ++ quadsW A B D l way at_).flatMap quadC) := own_but HOY.out KQ (fun g hg => by have := own_lt HOY.out hg; omega)
              clear hLQ o2
              refine wpAnyZ_one (i := 7) (by kernel_rfl) rfl ?_
              intro K hK
              refine step_append_any rfl (.tmp 24) (.tmp 30) 27 rfl W1.heap.size 33 i0 (.agg #[.int .i64 0, .int .i64 0, .int .i64 0, .int .i64 0, .int .i64 0, .int .i64 0, .int .i64 0]) 7 56 Try.underlying27 hi0 hz0 hz1 hz2 rfl (by decide) (.slice ao' m c') m ((quadsL A B D l way ++ quadsW A B D l way at_).flatMap quadC) (by simp [Act.eval]) hO1 ao2 LQ.length cq2 (LQ.flatMap quadC) (by simp [Act.eval]) (flat_len 7 quadC quadC_len LQ) (quad_src HO2.out.at) (quad_ones LQ) (by unfold maxLen; omega) (by omega) (by omega) ?_
              intro v3 w3 hown hgrow
              obtain ⟨ao3, cp3, hf3, _⟩ := own_form hown
              subst hf3
              have K3 : But T (T + 1) W1 w3 := (HKY.out.trans KQ).grown hgrow (fun k hk => .inl (own_lt hO1 hk).1)
              have HK3 : Hid (But T (T + 1) W1 w3) := K3
              have HT3 : Hid (∃ tk, Loc w3 T (tkL tk)) := by obtain ⟨tk, h⟩ := t2; exact ⟨tk, h.grown hgrow (fun e => by have := own_lt hO1 e; omega)⟩
              have HO3 : Hid (w3.ownsRow W1.heap.size 33 7 (.slice ao3 (m + LQ.length) cp3) (m + LQ.length) ((quadsL A B D l way ++ quadsW A B D l way at_).flatMap quadC ++ LQ.flatMap quadC)) := hown
              have LB3 := HLB.out.but K3 (.inl (by omega))
              have a0 := LB3.cell 0 rfl
              have a1 := LB3.cell 1 rfl
              have a2 := LB3.cell 2 rfl
              have a3 := LB3.cell 3 rfl
              refine hK.out _ _ (fun _ => ⟨a0, a1, a2, a3⟩) ?_
              clear hK K hown hgrow K3 LB3 hO1 t2 b2 KQ v0 v1 v2 v3 HS HQL
              try simp only [Act.put]
              refine wpAnyZ_one (i := 8) (by kernel_rfl) rfl ?_
              intro K hK
              rw [if_pos (by rfl)]
              go_simp
              refine hK.out _ _ (fun h => absurd rfl h) ?_
              clear hK K
              refine wpAnyZ_done (by kernel_rfl) ?_ _
              try simp only [Act.put]
              repeat (first | go_values | go_skip | go_guarded | go_step | go_upon)
              refine ⟨⟨at_ + 1, m + LQ.length, ao3, cp3, hla, by go_num, ?_, rfl, ?_, HT3, HK3⟩, by simp [intOf]; omega⟩
              · show m + LQ.length = _
                rw [quadsW_succ, HLQ.out, HM.out]
                simp only [List.length_append]
                omega
              · show World.ownsRow _ _ _ _ _ _ _
                rw [quadsW_succ, HLQ.out, ← List.append_assoc, List.flatMap_append]
                exact HO3.out
            · have hae : at_ = B := by omega
              have da : decide ((at_ : Int) < (B : Int)) = false := by simp; omega
              repeat (first | go_values | go_skip | go_guarded | go_step | go_upon)
              refine ⟨⟨way + 1, m, ao', c', hlw, by go_num, ?_, rfl, ?_, HT, HK⟩, by simp [intOf]; omega⟩
              · show m = _
                have h := HM.out; rw [hae] at h; rw [quadsL_succ, e1]; exact h
              · show World.ownsRow _ _ _ _ _ _ _
                have h := HO.out; rw [hae] at h; rw [quadsL_succ, e1]; exact h
        · have e1 : sideN A B D way = D := by unfold sideN; first | rw [if_pos (by omega)] | rw [if_neg (by omega), if_pos (by omega)] | rw [if_neg (by omega), if_neg (by omega)]
          rw [hax] at htd
          clear hax
          have hfd := fun W => fd_at (.int .i64 (D : Int)) (.int .i64 ((A : Int) * (B : Int))) W
          have hix := fun W => (ix_at (.int .i64 (A : Int)) (.int .i64 1) (.int .i64 (B : Int)) (.int .i64 (A : Int)) (.int .i64 (D : Int)) (.int .i64 ((A : Int) * (B : Int))) W).2.2
          repeat (first | (go_at_call 40; refine (HAX.out _).mono ?_; rintro e y1 ⟨rfl, k1⟩; clear v0 v1 v2 v3 vl; (try dsimp only)) | go_values | go_skip | go_guarded | go_step | go_upon)
          clear hix htd hfd
          have HT1 : Hid (∃ tk, Loc y1 T (tkL tk)) := by obtain ⟨tk, h⟩ := HT.out; exact ⟨tk, h.kept k1⟩
          have HK1 : Hid (But T (T + 1) W1 y1) := HK.out.transK k1
          have HO1 : Hid (y1.ownsRow W1.heap.size 33 7 (.slice ao' m c') m ((quadsL A B D l way ++ quadsW A B D l way 0).flatMap quadC)) := by show World.ownsRow _ _ _ _ _ _ _; have h := own_kept HO.out k1; simpa [quadsW] using h
          have HM1 : Hid (m = (quadsL A B D l way ++ quadsW A B D l way 0).length) := by show m = _; rw [HM.out]; simp [quadsW]
          clear HT HK HO HM k1 LBA
          go_loopw [4, 20] (fun x i wr => ∃ (at_ m : Nat) (ao' : Option Addr) (c' : Nat), at_ ≤ D ∧ i = .int .i64 at_ ∧ Hid (m = (quadsL A B D l way ++ quadsW A B D l way at_).length) ∧ x = .slice ao' m c' ∧ Hid (wr.ownsRow W1.heap.size 33 7 (.slice ao' m c') m ((quadsL A B D l way ++ quadsW A B D l way at_).flatMap quadC)) ∧ Hid (∃ tk, Loc wr T (tkL tk)) ∧ Hid (But T (T + 1) W1 wr)) (fun _ i _ => D - (intOf i).toNat)
          case atStart => exact ⟨0, m, ao', c', by omega, rfl, HM1, rfl, HO1, HT1, HK1⟩
          case round =>
            clear HT1 HK1 HO1 HM1
            rename World => wb
            obtain ⟨at_, m, ao', c', hat, rfl, HM, rfl, HO, HT, HK⟩ := hrel
            by_cases hla : at_ < D
            · have da : decide ((at_ : Int) < (D : Int)) = true := by simp; omega
              obtain ⟨tk, htk⟩ := HT.out
              have hcl := run_clear_flags htk
              obtain ⟨hcf, hcb⟩ := clear_flags htk
              obtain ⟨Y, hY⟩ : ∃ Y, Y = wb.setCells T 0 (List.replicate 64 (.bool false)) := ⟨_, rfl⟩
              rw [← hY] at hcl hcf hcb
              clear hY htk
              repeat (first | go_values | go_skip | go_guarded | go_step | go_upon)
              have HKY : Hid (But T (T + 1) W1 Y) := HK.out.trans hcb
              have HOY : Hid (Y.ownsRow W1.heap.size 33 7 (.slice ao' m c') m ((quadsL A B D l way ++ quadsW A B D l way at_).flatMap quadC)) := own_but HO.out hcb (fun g hg => by have := own_lt HO.out hg; omega)
              have HQL : Hid (∀ x : World, Kept Y x → Calls Try.prog 41 #[.agg #[.int .i64 (A : Int), .int .i64 (B : Int), .int .i64 (D : Int), .slice ao l.length cap, .int .i64 (way : Int), .int .i64 (at_ : Int), .slice (some ⟨T, 0, none⟩) 64 64]] x fun e w' => ∃ r, e = .returned r ∧ QuadO w' x.heap.size w'.heap.size r (layQ way at_ (usN A B way) (face A B D l way at_) (usN A B way * vsN B D way)).2 ∧ (∃ tk, Loc w' T (tkL tk)) ∧ But T (T + 1) x w') := fun x hx => ilayL A B D way at_ T l ao cap w x HG.out hlw (by rw [e1]; exact hla) hv ((HKW.out.onto HKY.out (by omega)).trans hx) (by omega) (hcf.kept hx) hl
              have LBY := HLB.out.but HKY.out (.inl (by omega))
              have v0 := LBY.cell 0 rfl
              have v1 := LBY.cell 1 rfl
              have v2 := LBY.cell 2 rfl
              have v3 := LBY.cell 3 rfl
              have vl := LBY.lt
              clear hcl hcb
              have HS : Hid (∀ w' : World, But T (T + 1) Y w' → w'.cell? ⟨w.heap.size, 0, none⟩ = some (.int .i64 (A : Int)) ∧ w'.cell? ⟨w.heap.size, 1, none⟩ = some (.int .i64 (B : Int)) ∧ w'.cell? ⟨w.heap.size, 2, none⟩ = some (.int .i64 (D : Int)) ∧ w'.cell? ⟨w.heap.size, 3, none⟩ = some (.slice ao l.length cap)) := fun w' k => ⟨k.cell v0 (.inl hwT), k.cell v1 (.inl hwT), k.cell v2 (.inl hwT), k.cell v3 (.inl hwT)⟩
              refine wp_region_Z (fun w' => w'.cell? ⟨w.heap.size, 0, none⟩ = some (.int .i64 (A : Int)) ∧ w'.cell? ⟨w.heap.size, 1, none⟩ = some (.int .i64 (B : Int)) ∧ w'.cell? ⟨w.heap.size, 2, none⟩ = some (.int .i64 (D : Int)) ∧ w'.cell? ⟨w.heap.size, 3, none⟩ = some (.slice ao l.length cap)) 8 (by kernel_rfl) ?_
              have hS : (fun w' => w'.cell? ⟨w.heap.size, 0, none⟩ = some (.int .i64 (A : Int)) ∧ w'.cell? ⟨w.heap.size, 1, none⟩ = some (.int .i64 (B : Int)) ∧ w'.cell? ⟨w.heap.size, 2, none⟩ = some (.int .i64 (D : Int)) ∧ w'.cell? ⟨w.heap.size, 3, none⟩ = some (.slice ao l.length cap)) Y.drew := HS.out _ ((But.refl _ _ _).drew)
              refine wpAnyZ_take (i := 0) (v := .slice ao' m c') rfl (by kernel_rfl) (by kernel_rfl) (by kernel_rfl) (by kernel_rfl) (fun _ _ _ h => h) (Or.inl ⟨by rfl, ?_⟩) hS ?_
              · intro w' hSw; obtain ⟨s0, s1, s2, s3⟩ := hSw; go_simp
              try simp only [Act.put]
              refine wpAnyZ_take (i := 1) (v := .agg #[.int .i64 (A : Int), .int .i64 (B : Int), .int .i64 (D : Int), .slice ao l.length cap]) rfl (by kernel_rfl) (by kernel_rfl) (by kernel_rfl) (by kernel_rfl) (fun _ _ _ h => h) (Or.inl ⟨by rfl, ?_⟩) hS ?_
              · intro w' hSw; obtain ⟨s0, s1, s2, s3⟩ := hSw; go_simp
              try simp only [Act.put]
              refine wpAnyZ_take (i := 2) (v := .int .i64 (way : Int)) rfl (by kernel_rfl) (by kernel_rfl) (by kernel_rfl) (by kernel_rfl) (fun _ _ _ h => h) (Or.inl ⟨by rfl, ?_⟩) hS ?_
              · intro w' hSw; obtain ⟨s0, s1, s2, s3⟩ := hSw; go_simp
              try simp only [Act.put]
              refine wpAnyZ_take (i := 3) (v := .int .i64 (at_ : Int)) rfl (by kernel_rfl) (by kernel_rfl) (by kernel_rfl) (by kernel_rfl) (fun _ _ _ h => h) (Or.inl ⟨by rfl, ?_⟩) hS ?_
              · intro w' hSw; obtain ⟨s0, s1, s2, s3⟩ := hSw; go_simp
              try simp only [Act.put]
              refine wpAnyZ_take (i := 4) (v := .slice (some ⟨T, 0, none⟩) 64 64) rfl (by kernel_rfl) (by kernel_rfl) (by kernel_rfl) (by kernel_rfl) (fun _ _ _ h => h) (Or.inl ⟨by rfl, ?_⟩) hS ?_
              · intro w' hSw; obtain ⟨s0, s1, s2, s3⟩ := hSw; go_simp
              try simp only [Act.put]
              refine wpAnyZ_take (i := 5) (v := .agg #[.int .i64 (A : Int), .int .i64 (B : Int), .int .i64 (D : Int), .slice ao l.length cap, .int .i64 (way : Int), .int .i64 (at_ : Int), .slice (some ⟨T, 0, none⟩) 64 64]) rfl (by kernel_rfl) (by kernel_rfl) (by kernel_rfl) (by kernel_rfl) (fun _ _ _ h => h) (Or.inl ⟨by rfl, ?_⟩) hS ?_
              · intro w' hSw; obtain ⟨s0, s1, s2, s3⟩ := hSw; go_simp
              try simp only [Act.put]
              refine wpAnyZ_one (i := 6) (by kernel_rfl) rfl ?_
              intro K hK
              rw [if_pos (by rfl)]
              go_simp
              go_at_call 41
              refine (HQL.out _ ((But.refl _ _ _).drew)).mono ?_
              rintro e y2 ⟨r, rfl, o2, t2, b2⟩
              have KQ : But T (T + 1) Y y2 := ((But.refl _ _ _).drew).trans b2
              obtain ⟨ao2, cq2, hf2, _⟩ := own_form o2.1
              subst hf2
              clear hS
              dsimp only
              refine hK.out _ _ (fun _ => HS.out _ KQ) ?_
              clear hK K
              try simp only [Act.put]
              have hlq := layQ_len (way := way) (at_ := at_) (us := usN A B way) (G0 := face A B D l way at_) (usN A B way * vsN B D way)
              obtain ⟨hu8, hv8, -⟩ := dims_le hdim.1.2 hdim.2.1.2 hdim.2.2.2 way
              have huv : usN A B way * vsN B D way ≤ 64 := Nat.le_trans (Nat.mul_le_mul hu8 hv8) (by omega)
              have hm3 : m ≤ 3584 := by rw [HM.out, List.length_append]; have h1 := quadsL_len hdim.1.2 hdim.2.1.2 hdim.2.2.2 l way; have h2 := quadsW_len hdim.1.2 hdim.2.1.2 hdim.2.2.2 l way at_; omega
              have hys := KQ.size
              have hWY := HKY.out.size
              obtain ⟨LQ, hLQ⟩ : ∃ q, (layQ way at_ (usN A B way) (face A B D l way at_) (usN A B way * vsN B D way)).2 = q := ⟨_, rfl⟩
              have HLQ : Hid ((layQ way at_ (usN A B way) (face A B D l way at_) (usN A B way * vsN B D way)).2 = LQ) := hLQ
              rw [hLQ] at o2 hlq ⊢
              have HO2 : Hid (QuadO y2 Y.drew.heap.size y2.heap.size (.slice ao2 LQ.length cq2) LQ) := o2
              have hO1 : y2.ownsRow W1.heap.size 33 7 (.slice ao' m c') m ((quadsL A B D l way ++ quadsW A B D l way at_).flatMap quadC) := own_but HOY.out KQ (fun g hg => by have := own_lt HOY.out hg; omega)
              clear hLQ o2
              refine wpAnyZ_one (i := 7) (by kernel_rfl) rfl ?_
              intro K hK
              refine step_append_any rfl (.tmp 24) (.tmp 30) 27 rfl W1.heap.size 33 i0 (.agg #[.int .i64 0, .int .i64 0, .int .i64 0, .int .i64 0, .int .i64 0, .int .i64 0, .int .i64 0]) 7 56 Try.underlying27 hi0 hz0 hz1 hz2 rfl (by decide) (.slice ao' m c') m ((quadsL A B D l way ++ quadsW A B D l way at_).flatMap quadC) (by simp [Act.eval]) hO1 ao2 LQ.length cq2 (LQ.flatMap quadC) (by simp [Act.eval]) (flat_len 7 quadC quadC_len LQ) (quad_src HO2.out.at) (quad_ones LQ) (by unfold maxLen; omega) (by omega) (by omega) ?_
              intro v3 w3 hown hgrow
              obtain ⟨ao3, cp3, hf3, _⟩ := own_form hown
              subst hf3
              have K3 : But T (T + 1) W1 w3 := (HKY.out.trans KQ).grown hgrow (fun k hk => .inl (own_lt hO1 hk).1)
              have HK3 : Hid (But T (T + 1) W1 w3) := K3
              have HT3 : Hid (∃ tk, Loc w3 T (tkL tk)) := by obtain ⟨tk, h⟩ := t2; exact ⟨tk, h.grown hgrow (fun e => by have := own_lt hO1 e; omega)⟩
              have HO3 : Hid (w3.ownsRow W1.heap.size 33 7 (.slice ao3 (m + LQ.length) cp3) (m + LQ.length) ((quadsL A B D l way ++ quadsW A B D l way at_).flatMap quadC ++ LQ.flatMap quadC)) := hown
              have LB3 := HLB.out.but K3 (.inl (by omega))
              have a0 := LB3.cell 0 rfl
              have a1 := LB3.cell 1 rfl
              have a2 := LB3.cell 2 rfl
              have a3 := LB3.cell 3 rfl
              refine hK.out _ _ (fun _ => ⟨a0, a1, a2, a3⟩) ?_
              clear hK K hown hgrow K3 LB3 hO1 t2 b2 KQ v0 v1 v2 v3 HS HQL
              try simp only [Act.put]
              refine wpAnyZ_one (i := 8) (by kernel_rfl) rfl ?_
              intro K hK
              rw [if_pos (by rfl)]
              go_simp
              refine hK.out _ _ (fun h => absurd rfl h) ?_
              clear hK K
              refine wpAnyZ_done (by kernel_rfl) ?_ _
              try simp only [Act.put]
              repeat (first | go_values | go_skip | go_guarded | go_step | go_upon)
              refine ⟨⟨at_ + 1, m + LQ.length, ao3, cp3, hla, by go_num, ?_, rfl, ?_, HT3, HK3⟩, by simp [intOf]; omega⟩
              · show m + LQ.length = _
                rw [quadsW_succ, HLQ.out, HM.out]
                simp only [List.length_append]
                omega
              · show World.ownsRow _ _ _ _ _ _ _
                rw [quadsW_succ, HLQ.out, ← List.append_assoc, List.flatMap_append]
                exact HO3.out
            · have hae : at_ = D := by omega
              have da : decide ((at_ : Int) < (D : Int)) = false := by simp; omega
              repeat (first | go_values | go_skip | go_guarded | go_step | go_upon)
              refine ⟨⟨way + 1, m, ao', c', hlw, by go_num, ?_, rfl, ?_, HT, HK⟩, by simp [intOf]; omega⟩
              · show m = _
                have h := HM.out; rw [hae] at h; rw [quadsL_succ, e1]; exact h
              · show World.ownsRow _ _ _ _ _ _ _
                have h := HO.out; rw [hae] at h; rw [quadsL_succ, e1]; exact h
      · have hwe : way = 6 := by omega
        subst hwe
        repeat (first | go_values | go_skip | go_guarded | go_step | go_upon)
        go_returns
        refine ⟨_, rfl, ?_, HKW.out.onto HK.out (by omega)⟩
        have h := RowO.top HO.out
        have hm := HM.out
        have hz := HKW.out.size
        exact QuadO.mono (lo := W1.heap.size) (hi := wa.heap.size) (show QuadO wa W1.heap.size wa.heap.size (.slice ao' m c') (quadsL A B D l 6) by unfold QuadO; rw [← hm]; exact h) hz (Nat.le_refl _)
  · have dg : decide (BlocksP a b d l) = false := decide_eq_false hg
    rw [show quadsA a b d l = ([], false) from if_neg hg]
    go_enter Try.func12, Try.ntmps12
    repeat (first | (go_at_call 19; refine (igood _ _ _ _ _ _ _ (hv.kept ((But.refl _ _ _).alloc _)) (by omega)).mono ?_; rintro e u1 ⟨rfl, k1⟩; rw [dg]; have K1 : Kept w u1 := ((But.refl _ _ _).alloc _).trans k1; have L1 := (Loc.new w [.int .i64 a, .int .i64 b, .int .i64 d, .slice ao l.length cap] 25).kept k1; have v0 := L1.cell 0 rfl; have v1 := L1.cell 1 rfl; have v2 := L1.cell 2 rfl; have v3 := L1.cell 3 rfl; have vl := L1.lt; (try dsimp only)) | go_values | go_skip | go_guarded | go_step | go_upon)
    go_returns
    exact ⟨_, rfl, RowO.top (World.ownsRow_nil _ _ _ _), K1⟩

end Go.Proofs.Ytnfkgnbhdhpnmaa

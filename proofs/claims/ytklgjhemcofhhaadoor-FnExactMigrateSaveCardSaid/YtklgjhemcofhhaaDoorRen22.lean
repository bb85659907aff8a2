/-
  renameValue.
-/
import Derived.Test.YtklgjhemcofhhaaDoorErr22
import Derived.Test.YtklgjhemcofhhaaDoorIns22
import Derived.Test.YtklgjhemcofhhaaDoorBin22
import Derived.Test.YtklgjhemcofhhaaDoorMigS22
import Derived.Test.YtklgjhemcofhhaaDoorApp22
import Derived.Deep.RegionHeld3
namespace Go.Proofs.YtklgjhemcofhhaaDoor
open Go.ChangeShapes Go.WideShapes Go.ChangeAt Go.RowKit

set_option maxRecDepth 100000
set_option linter.unusedVariables false
set_option linter.unusedSimpArgs false

theorem flatv_take (l : List ValD) (k : Nat) : (l.flatMap valC).take (k * 3) = (l.take k).flatMap valC := by
  induction l generalizing k with
  | nil => simp
  | cons a t ih =>
    cases k with
    | zero => simp
    | succ k =>
      rw [List.flatMap_cons, List.take_succ_cons, List.flatMap_cons, List.take_append, valC_len, ← ih k]
      rw [List.take_of_length_le (by rw [valC_len]; omega), show (k + 1) * 3 - 3 = k * 3 by omega]
theorem flatv_drop (l : List ValD) (k : Nat) : (l.flatMap valC).drop (k * 3) = (l.drop k).flatMap valC := by
  induction l generalizing k with
  | nil => simp
  | cons a t ih =>
    cases k with
    | zero => simp
    | succ k =>
      rw [List.flatMap_cons, List.drop_succ_cons, List.drop_append, valC_len, ← ih k]
      rw [List.drop_of_length_le (by rw [valC_len]; omega), show (k + 1) * 3 - 3 = k * 3 by omega, List.nil_append]
theorem flatv_dropL (l : List ValD) (k : Nat) : (dropL l k).flatMap valC = (l.flatMap valC).take (k * 3) ++ (l.flatMap valC).drop ((k + 1) * 3) := by
  rw [flatv_take, flatv_drop, ← List.flatMap_append]
  rfl
theorem flatv_putL (l : List ValD) (x : ValD) : (putL l x).flatMap valC = (l.flatMap valC).take (posL x.1 l * 3) ++ valC x ++ (l.flatMap valC).drop (posL x.1 l * 3) := by
  rw [flatv_take, flatv_drop]
  unfold putL
  rw [List.flatMap_append, List.flatMap_append]
  simp
/-- A value is taken out of a row that is ours. -/
theorem idel (l : List ValD) (k g cap lo hi : Nat) (w : World) (hO : ValO w lo hi (.slice (some ⟨g, 0, none⟩) l.length cap) l) (hk : k < l.length) (hn : l.length ≤ 1048576) :
    Calls Tryd.prog 71 #[.slice (some ⟨g, 0, none⟩) l.length cap, .int .i64 (k : Int), .int .i64 ((k : Int) + 1)] w fun e w' =>
      e = .returned (.slice (some ⟨g, 0, none⟩) (dropL l k).length cap) ∧ ValO w' lo w'.heap.size (.slice (some ⟨g, 0, none⟩) (dropL l k).length cap) (dropL l k) ∧ But lo hi w w' := by
  have hl := drop_len hk
  refine (deleteP lo g l.length cap k (l.flatMap valC) w hO.1 (ones_val l) hk hn).mono ?_
  rintro e w' ⟨rfl, h1, h2⟩
  rw [← flatv_dropL, show l.length - 1 = (dropL l k).length by omega] at h1
  rw [show l.length - 1 = (dropL l k).length by omega]
  have hg := hO.2 g rfl
  have hg2 := (own_lt hO.1 (g := g) rfl).1
  exact ⟨rfl, RowO.top h1, But.mono h2 (by omega) (by omega)⟩
/-- A value is put into a row that is ours. -/
theorem iins (l : List ValD) (x : ValD) (vb lo hi : Nat) (v : Value) (w : World) (hO : ValO w lo hi v l) (hv : Loc w vb (valC x)) (hvb : hi ≤ vb) (hlo : lo ≤ w.heap.size) (hn : l.length ≤ 1048576) :
    Calls Tryd.prog 72 #[v, .int .i64 (posL x.1 l : Nat), .slice (some ⟨vb, 0, none⟩) 1 1] w fun e w' =>
      ∃ v', e = .returned v' ∧ ValO w' lo w'.heap.size v' (putL l x) ∧ But lo hi w w' := by
  have hp : posL x.1 l ≤ l.length := tw_len_le _ _
  refine (insertP lo l.length (posL x.1 l) v (l.flatMap valC) vb x w hO.1 (ones_val l) hv (fun e => by have := hO.2 _ e; omega) hp hn hlo).mono ?_
  rintro e w' ⟨v', rfl, h1, h2, _⟩
  rw [← flatv_putL, ← put_len l x] at h1
  exact ⟨v', rfl, RowO.top h1, But.inner h2 hO⟩

theorem forgetR {P : Program} {c : Go.Code} {Q : Exit → Act → World → Prop} {a : Act} {W : World} (F : World → Prop) (hF : F W) (h : ∀ W', F W' → Code.wp P c Q a W') : Code.wp P c Q a W := h W hF
set_option maxHeartbeats 2000000 in
theorem iren_taken (l : List ValD) (k : Nat) (to : ByteArray) (v : Value) (w : World) (hv : ValAt w v l) (hup : UpR l) (hn : l.length ≤ 30) (ht : 0 ≤ atI l to) (hE : GE w 9) :
    Calls Tryd.prog 68 #[v, .int .i64 (k : Int), .string to] w fun e w' => (∃ er, EIs er ∧ e = .returned (.tuple #[.slice none 0 0, er])) ∧ Kept w w' := by
  have hf : foundB to l = true := by
    rcases found_at hup to with ⟨h, _⟩ | ⟨_, h⟩
    · exact h
    · omega
  have HF : Hid (Calls Tryd.prog 67 #[v, .string to] w fun e w' => e = .returned (.tuple #[.int .i64 (posL to l : Nat), .bool true]) ∧ Kept w w') := by
    have := ifind l to v w hv (by omega) hup
    rw [hf] at this
    exact this
  have HG : Hid (∀ W, Kept w W → GE W 9) := fun W k => hE.kept k
  obtain ⟨ao, cap, hsl⟩ := row_nil hv
  subst hsl
  generalize posL to l = p at *
  clear hf ht hE hup hv
  go_enter Tryd.func68, Tryd.ntmps68
  go_wp2_with (first | (go_at_call 67; refine HF.out.mono ?_; rintro e w1 ⟨rfl, k1⟩; obtain ⟨u, a, hc⟩ := HG.out _ k1) | go_region)
  go_ret2
  exact ⟨⟨_, ⟨u, a, rfl⟩, rfl⟩, k1.drew⟩
set_option maxHeartbeats 4000000 in
theorem iren (l : List ValD) (k lo : Nat) (d : ValD) (to : ByteArray) (v : Value) (w : World) (hO : ValO w lo w.heap.size v l) (hup : UpR l) (hn : l.length ≤ 30) (hd : l[k]? = some d) (ht : atI l to = -1) :
    Calls Tryd.prog 68 #[v, .int .i64 (k : Int), .string to] w fun e w' => ∃ v', e = .returned (.tuple #[v', .nilIface]) ∧ ValO w' lo w'.heap.size v' (putL (dropL l k) (to, d.2.1, d.2.2)) ∧ But lo w.heap.size w w' := by
  have hf : foundB to l = false := by
    rcases found_at hup to with ⟨_, h, _⟩ | ⟨h, _⟩
    · omega
    · exact h
  have hk := (List.getElem?_eq_some_iff.1 hd).1
  obtain ⟨g, cap, hsl⟩ : ∃ g cap, v = .slice (some ⟨g, 0, none⟩) l.length cap := by
    rcases hO.1.2 with ⟨_, hz⟩ | ⟨g, c2, cur, hf, _⟩
    · omega
    · exact ⟨g, c2, hf⟩
  subst hsl
  have hlo : lo ≤ w.heap.size := by
    have := own_lt hO.1 (g := g) rfl
    omega
  have HF : Hid (Calls Tryd.prog 67 #[.slice (some ⟨g, 0, none⟩) l.length cap, .string to] w fun e w' => e = .returned (.tuple #[.int .i64 (posL to l : Nat), .bool false]) ∧ Kept w w') := by
    have := ifind l to _ w hO.at (by omega) hup
    rw [hf] at this
    exact this
  have HP : Hid (∃ p, posL to l = p) := ⟨_, rfl⟩
  generalize posL to l = p0 at *
  have hdl := drop_len hk
  have HO : Hid (ValO w lo w.heap.size (.slice (some ⟨g, 0, none⟩) l.length cap) l) := hO
  have HU : Hid (UpR (dropL l k)) := up_drop hup k
  have hl1 : (dropL l k).length ≤ 1048576 := by omega
  have hl2 : l.length ≤ 1048576 := by omega
  have HD : Hid (l[k]? = some d) := hd
  clear hf ht hup hd hdl hO
  go_enter Tryd.func68, Tryd.ntmps68
  repeat (first | go_values | go_skip | go_guarded | go_step | go_upon)
  go_at_call 67
  with_reducible refine HF.out.mono ?_
  rintro e w1 ⟨rfl, k1⟩
  have HO1 : Hid (ValO w1 lo w.heap.size (.slice (some ⟨g, 0, none⟩) l.length cap) l) := HO.out.kept k1
  have HK1 : Hid (Kept w w1) := k1
  obtain ⟨q0, q1, q2, _⟩ := HO1.out.cells HD.out
  obtain ⟨d0, d1, d2⟩ := d
  dsimp only at q0 q1 q2 ⊢
  have hgw := World.block_lt_of_cell? _ _ q0
  clear k1 HF HO HD HP
  repeat (first | go_values | go_skip | go_guarded | go_step | go_upon)
  go_at_call 71
  refine (idel l k g cap lo _ _ (HO1.out.kept ((But.refl _ _ _).alloc _)) hk hl2).mono ?_
  rintro e w3 ⟨rfl, o3, b3⟩
  obtain ⟨vb, hvb⟩ : ∃ vb, w1.heap.size = vb := ⟨_, rfl⟩
  have L2 := Loc.new w1 [.string to, .int .i64 d1, .string d2] 53
  rw [hvb] at L2 ⊢
  have hvb2 : w.heap.size ≤ vb := by rw [← hvb]; exact HK1.out.size
  have HL3 : Hid (Loc w3 vb [.string to, .int .i64 d1, .string d2]) := L2.but b3 (.inr hvb2)
  have HB3 : Hid (But lo w.heap.size w w3) := But.trans (But.of (HK1.out.alloc _)) b3
  have hgh := HO1.out.2 g rfl
  have HO3 : Hid (ValO w3 lo w3.heap.size (.slice (some ⟨g, 0, none⟩) (dropL l k).length cap) (dropL l k)) := o3
  have HO3' : Hid (ValO w3 lo w.heap.size (.slice (some ⟨g, 0, none⟩) (dropL l k).length cap) (dropL l k)) := ⟨o3.1, fun g' hg' => by simp [Value.ownBlock] at hg'; omega⟩
  have HF3 : Hid (Calls Tryd.prog 67 #[.slice (some ⟨g, 0, none⟩) (dropL l k).length cap, .string to] w3 fun e w' => e = .returned (.tuple #[.int .i64 (posL to (dropL l k) : Nat), .bool (foundB to (dropL l k))]) ∧ Kept w3 w') := ifind (dropL l k) to _ w3 o3.at hl1 HU.out
  clear o3 b3 L2 hvb q0 q1 q2 hgw hgh
  dsimp only
  repeat (first | go_values | go_skip | go_guarded | go_step | go_upon)
  go_at_call 67
  with_reducible refine HF3.out.mono ?_
  rintro e w4 ⟨rfl, k4⟩
  have HL4 : Hid (Loc w4 vb [.string to, .int .i64 d1, .string d2]) := HL3.out.kept k4
  have HO4 : Hid (ValO w4 lo w.heap.size (.slice (some ⟨g, 0, none⟩) (dropL l k).length cap) (dropL l k)) := HO3'.out.kept k4
  have HB4 : Hid (But lo w.heap.size w w4) := But.transK HB3.out k4
  have u0 := HL4.out.cell 0 (v := .string to) rfl
  have u1 := HL4.out.cell 1 (v := .int .i64 d1) rfl
  have u2 := HL4.out.cell 2 (v := .string d2) rfl
  clear k4
  dsimp only
  repeat (first | go_values | go_skip | go_guarded | go_step | go_upon)
  go_at_call 72
  refine (iins (dropL l k) (to, d1, d2) w4.heap.size lo w.heap.size _ _ (HO4.out.kept ((But.refl _ _ _).alloc _)) (Loc.new w4 (valC (to, d1, d2)) 53) HB4.out.size (by have := HB4.out.size; simp; omega) hl1).mono ?_
  rintro e w5 ⟨v5, rfl, o5, b5⟩
  dsimp only
  repeat (first | go_values | go_skip | go_guarded | go_step | go_upon)
  go_ret2
  exact ⟨_, rfl, o5, (But.alloc HB4.out _).trans b5⟩

end Go.Proofs.YtklgjhemcofhhaaDoor

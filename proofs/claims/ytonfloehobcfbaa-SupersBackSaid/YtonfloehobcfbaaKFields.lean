/- A boxed record's cells; fields. -/
import Derived.Test.YtonfloehobcfbaaKNum
namespace Go.Proofs.Ytonfloehobcfbaa
set_option linter.unusedVariables false
open Go.RowKit

/-- a record's six cells in block g -/
abbrev RecAt (g : Nat) (k : Int) (q : Nat) (p : Int) (vh vm : Value) (s : Nat) (w : World) : Prop := Blk g #[.int .i64 k, .int .u64 (q : Int), .int .i64 p, vh, vm, .int .u32 (s : Int)] 37 w
theorem rec_cells {g : Nat} {k p : Int} {q s : Nat} {vh vm : Value} {w : World} (h : RecAt g k q p vh vm s w) :
    w.cell? ⟨g, 0, none⟩ = some (.int .i64 k) ∧ w.cell? ⟨g, 1, none⟩ = some (.int .u64 (q : Int)) ∧ w.cell? ⟨g, 2, none⟩ = some (.int .i64 p) ∧ w.cell? ⟨g, 3, none⟩ = some vh ∧ w.cell? ⟨g, 4, none⟩ = some vm ∧ w.cell? ⟨g, 5, none⟩ = some (.int .u32 (s : Int)) :=
  ⟨h.cell 0, h.cell 1, h.cell 2, h.cell 3, h.cell 4, h.cell 5⟩

theorem add_bs (a b : List UInt8) (S T : ByteArray) (hS : S = bs a) (hT : T = bs b) : S ++ T = bs (a ++ b) := by rw [hS, hT, bs_append]

set_option maxHeartbeats 4000000 in
theorem fields_1 (r : Rec) (h : Ok1 r) (vh vm : Value) (w : World) :
    Calls Try.prog 50 #[recV r vh vm] w fun e w' => e = .returned (.string (bs (fieldsB r))) ∧ Below w.heap.size w w' := by
  have e1 : fieldsB r = leB 2 r.pos.toNat := by unfold fieldsB; rw [if_pos h.1]
  rw [e1]
  have gh : Try.prog.stoodInHeld 37 = false := by kernel_rfl
  obtain ⟨kind, seq, pos, homes, masked, sum⟩ := r
  obtain ⟨h1, h2, h3, _⟩ := h
  dsimp only at *
  subst h1
  obtain ⟨p, rfl⟩ := Int.eq_ofNat_of_zero_le h2
  have h3 : p ≤ 510 := by omega
  have N := Lib.hid (fun w => number_any 2 p (by omega) (by omega) w)
  rw [Int.toNat_natCast]
  clear e1 h2
  go_enter Try.func50, Try.ntmps50
  go_wp2_with fail
  refine (N.out _).mono ?_; rintro e w1 ⟨rfl, hb⟩
  have hbb := below_boxed hb
  go_wp2
  go_ret
  exact ⟨rfl, hbb⟩
set_option maxHeartbeats 4000000 in
theorem fields_4 (r : Rec) (h : Ok4 r) (f : Fits r) (vh vm : Value) (w : World) :
    Calls Try.prog 50 #[recV r vh vm] w fun e w' => e = .returned (.string (bs (fieldsB r))) ∧ Below w.heap.size w w' := by
  have e1 : fieldsB r = leB 4 r.sum := by unfold fieldsB; rw [if_neg (by rw [h.1]; omega), if_pos h.1]
  rw [e1]
  have gh : Try.prog.stoodInHeld 37 = false := by kernel_rfl
  have hs := f.sum
  obtain ⟨kind, seq, pos, homes, masked, sum⟩ := r
  obtain ⟨h1, _⟩ := h
  dsimp only at *
  subst h1
  have N := Lib.hid (fun w => number_any 4 sum (by omega) (by omega) w)
  clear e1 f
  go_enter Try.func50, Try.ntmps50
  go_wp2_with fail
  refine (N.out _).mono ?_; rintro e w1 ⟨rfl, hb⟩
  have hbb := below_boxed hb
  go_wp2
  go_ret
  exact ⟨rfl, hbb⟩

theorem homesB_snoc (l : List Int) (k : Nat) (h : k < l.length) : homesB (l.take (k + 1)) = homesB (l.take k) ++ leB 2 (l[k]).toNat := by
  rw [List.take_succ_eq_append_getElem h, homesB_append, homesB_cons]; simp [homesB]
theorem marksB_snoc (l : List Bool) (k : Nat) (h : k < l.length) : marksB (l.take (k + 1)) = marksB (l.take k) ++ [flagB l[k]] := by
  unfold marksB; rw [List.take_succ_eq_append_getElem h, List.map_append]; rfl
set_option maxHeartbeats 8000000 in
theorem fields_l (kind : Int) (hk : kind = 2 ∨ kind = 3) (seq : Nat) (pos : Int) (l : List Int) (m : List Bool) (sum : Nat) (hl : ∀ x ∈ l, 0 ≤ x ∧ x < 4096) (h1 : l.length ≤ 28) (h2 : m.length ≤ 28) (vh vm : Value) (w : World) (hh : IntsIn vh l w) (hm : BoolsIn vm m w) :
    Calls Try.prog 50 #[.agg #[.int .i64 kind, .int .u64 (seq : Int), .int .i64 pos, vh, vm, .int .u32 (sum : Int)]] w fun e w' => e = .returned (.string (bs (leB 1 l.length ++ (homesB l ++ marksB m)))) ∧ Below w.heap.size w w' := by
  have gh : Try.prog.stoodInHeld 37 = false := by kernel_rfl
  have d1 : (kind == 1) = false := by rw [beq_eq_false_iff_ne]; omega
  have d4 : (kind == 4) = false := by rw [beq_eq_false_iff_ne]; omega
  obtain ⟨ah, ch, rfl, a1, a2, a3, -⟩ := hh.shape
  obtain ⟨am, cm, rfl, b1, b2, b3, -⟩ := hm.shape
  have A3 := Lib.hid (row_cells a3)
  have B3 := Lib.hid (row_cells b3)
  have HL := Lib.hid hl
  obtain ⟨w0, hw0⟩ : ∃ w0, w.alloc (.cells #[.int .i64 kind, .int .u64 (seq : Int), .int .i64 pos, .slice ah l.length ch, .slice am m.length cm, .int .u32 (sum : Int)] 37) = w0 := ⟨_, rfl⟩
  have hB : RecAt w.heap.size kind seq pos (.slice ah l.length ch) (.slice am m.length cm) sum w0 := by rw [← hw0]; exact Blk.new _ _ w
  have hb0 : Below w.heap.size w w0 := by rw [← hw0]; exact balloc1 w _
  have hs0 : w0.heap.size = w.heap.size + 1 := by rw [← hw0]; exact size_alloc w _
  obtain ⟨c0, c1, c2, c3, c4, c5⟩ := rec_cells hB
  have N1 := Lib.hid (fun w => number_any 1 l.length (by omega) (by omega) w)
  have N2 := Lib.hid (fun (n : Nat) (hn : n < 4096) w => number_any 2 n (by omega) (by omega) w)
  have FL := Lib.hid flag_any
  have z1 : (bs (leB 1 l.length)).size = 1 := by rw [bs_size, leB_length]
  clear hk hh hm a3 b3 hl
  go_enter Try.func50, Try.ntmps50
  go_wp2_with fail
  refine (N1.out _).mono ?_; rintro e w1 ⟨rfl, hb1⟩
  have hB1 := hB.kept1 hb1
  have hbb1 : Below w.heap.size w w1 := bnext hb0 hb1
  have hs1 := hb1.size
  obtain ⟨x0, x1, x2, x3, x4, x5⟩ := rec_cells hB1
  clear c0 c1 c2 c3 c4 c5 hw0 hb1 hB
  go_wp2
  go_loopw [3, 30] (fun s i wr => ∃ k : Nat, s = .string (bs (leB 1 l.length ++ homesB (l.take k))) ∧ i = .int .i64 k ∧ k ≤ l.length ∧ RecAt w.heap.size kind seq pos (.slice ah l.length ch) (.slice am m.length cm) sum wr ∧ Below w.heap.size w wr) (fun _ i _ => l.length - (intOf i).toNat)
  case atStart => exact ⟨0, by rw [List.take_zero]; simp [homesB], rfl, Nat.zero_le _, hB1, hbb1⟩
  case round =>
    clear x0 x1 x2 x3 x4 x5 hB1 hbb1
    obtain ⟨k, rfl, rfl, hk, hB, hb⟩ := hrel
    by_cases hlt : k < l.length
    · obtain ⟨g, o, rfl, hg, hc⟩ := A3.out (by omega)
      have q1 := (hb.cell (p := ⟨g, o + k, none⟩) hg).trans (hc k hlt)
      obtain ⟨hx1, hx2⟩ := HL.out _ (List.getElem_mem hlt)
      have HS := Lib.hid (homesB_snoc l k hlt)
      have z2 : (bs (leB 1 l.length ++ homesB (l.take k))).size = 1 + 2 * k := by rw [bs_size, List.length_append, leB_length, homesB_length, List.length_take]; omega
      clear hc
      generalize l[k] = x at *
      obtain ⟨n, rfl⟩ := Int.eq_ofNat_of_zero_le hx1
      have z3 : (bs (leB 2 n)).size = 2 := by rw [bs_size, leB_length]
      go_wp2_with fail
      refine (N2.out n (by omega) _).mono ?_; rintro e w2 ⟨rfl, hb2⟩
      have hB2 := hB.kept1 hb2
      have hbb2 := bnext hb hb2
      clear hb2 hB
      go_wp2
      exact ⟨⟨k + 1, by rw [HS.out, Int.toNat_natCast, bs_append, List.append_assoc], by go_num, by omega, hB2, hbb2⟩, by simp [intOf]; omega⟩
    · obtain rfl : k = l.length := by omega
      obtain ⟨x0, x1, x2, x3, x4, x5⟩ := rec_cells hB
      rw [List.take_length]
      go_wp2
      go_loopw [3, 43] (fun s i wr => ∃ k : Nat, s = .string (bs (leB 1 l.length ++ (homesB l ++ marksB (m.take k)))) ∧ i = .int .i64 k ∧ k ≤ m.length ∧ Below w.heap.size w wr) (fun _ i _ => m.length - (intOf i).toNat)
      case atStart => exact ⟨0, by rw [List.take_zero]; simp [marksB], rfl, Nat.zero_le _, hb⟩
      case round =>
        clear x0 x1 x2 x3 x4 x5 hB hb
        obtain ⟨k, rfl, rfl, hk, hb⟩ := hrel
        by_cases hlt : k < m.length
        · obtain ⟨g, o, rfl, hg, hc⟩ := B3.out (by omega)
          have q1 := (hb.cell (p := ⟨g, o + k, none⟩) hg).trans (hc k hlt)
          have HS := Lib.hid (marksB_snoc m k hlt)
          have z2 : (bs (leB 1 l.length ++ (homesB l ++ marksB (m.take k)))).size = 1 + 2 * l.length + k := by rw [bs_size, List.length_append, List.length_append, leB_length, homesB_length, marksB_length, List.length_take]; omega
          clear hc
          generalize m[k] = x at *
          have z3 : (bs [flagB x]).size = 1 := rfl
          go_wp2_with fail
          refine (FL.out x _).mono ?_; rintro e w2 ⟨rfl, hb2⟩
          have hbb2 := bnext hb hb2
          clear hb2
          go_wp2
          exact ⟨⟨k + 1, by rw [HS.out, bs_append, List.append_assoc, List.append_assoc], by go_num, by omega, hbb2⟩, by simp [intOf]; omega⟩
        · obtain rfl : k = m.length := by omega
          rw [List.take_length]
          go_wp2
          go_ret
          exact ⟨rfl, hb⟩
theorem fields_any (r : Rec) (h : RecOk r) (f : Fits r) (vh vm : Value) (w : World) (hr : RecIn r vh vm w) :
    Calls Try.prog 50 #[recV r vh vm] w fun e w' => e = .returned (.string (bs (fieldsB r))) ∧ Below w.heap.size w w' := by
  rcases h with h | h | h | h
  · exact fields_1 r h vh vm w
  · have e1 : fieldsB r = leB 1 r.homes.length ++ (homesB r.homes ++ marksB r.masked) := list_split (by first | exact .inl h.1 | exact .inr h.1)
    rw [e1]
    have := h.2.1.2.1
    exact fields_l r.kind (.inl h.1) r.seq r.pos r.homes r.masked r.sum (fun x hx => by obtain ⟨i, hi, rfl⟩ := List.getElem_of_mem hx; exact ok_bounds h.2.1 i hi) (by omega) (by have := h.2.2.1; omega) vh vm w hr.1 hr.2
  · have e1 : fieldsB r = leB 1 r.homes.length ++ (homesB r.homes ++ marksB r.masked) := list_split (by first | exact .inl h.1 | exact .inr h.1)
    rw [e1]
    have := h.2.1.2.1
    exact fields_l r.kind (.inr h.1) r.seq r.pos r.homes r.masked r.sum (fun x hx => by obtain ⟨i, hi, rfl⟩ := List.getElem_of_mem hx; exact ok_bounds h.2.1 i hi) (by omega) (by have := h.2.2.1; omega) vh vm w hr.1 hr.2
  · exact fields_4 r h f vh vm w
end Go.Proofs.Ytonfloehobcfbaa

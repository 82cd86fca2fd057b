/- The walk of RecordsMany. -/
import Derived.Test.YthkmcfomnkcljaaKAlive
namespace Go.Proofs.Ythkmcfomnkcljaa
set_option linter.unusedVariables false
open Go.RowKit

def riseL (x d n : Nat) : List Int := (List.range n).map fun i => ((x + d * i : Nat) : Int)
theorem riseL_length (x d n : Nat) : (riseL x d n).length = n := by unfold riseL; simp
theorem riseL_succ (x d n : Nat) : riseL x d (n + 1) = riseL x d n ++ [((x + d * n : Nat) : Int)] := by unfold riseL; rw [List.range_succ, List.map_append]; rfl
theorem riseL_at (x d n i : Nat) (h : i < n) : (riseL x d n)[i]? = some ((x + d * i : Nat) : Int) := by unfold riseL; simp [h]
theorem riseL_hat (x d n i : Nat) (h : i < n) : hat (riseL x d n) i = ((x + d * i : Nat) : Int) := by unfold hat; rw [riseL_at x d n i h]; rfl
theorem riseL_ok (x d n : Nat) (hd : 1 ≤ d) (hn : 1 ≤ n) (hx : x + d * n ≤ 4096) (most : Int) : HomesOk (riseL x d n) most ↔ (n : Int) ≤ most := by
  unfold HomesOk
  rw [riseL_length]
  constructor
  · exact fun h => h.2.1
  · refine fun h => ⟨by omega, h, fun j hj => ?_⟩
    unfold upAt
    rw [riseL_hat x d n j hj]
    have h2 : d * (j + 1) ≤ d * n := Nat.mul_le_mul_left d (by omega)
    have h3 : d * (j + 1) = d * j + d := by rw [Nat.mul_add]; omega
    refine ⟨?_, by omega⟩
    unfold prevH
    by_cases h0 : j = 0
    · rw [if_pos h0]; omega
    · rw [if_neg h0, riseL_hat x d n (j - 1) (by omega)]
      have h4 : d * (j - 1 + 1) = d * (j - 1) + d := by rw [Nat.mul_add]; omega
      rw [show j - 1 + 1 = j by omega] at h4
      omega
theorem riseL_fit (x d n : Nat) (hx : x + d * n ≤ 4096) : ∀ y ∈ riseL x d n, 0 ≤ y ∧ y ≤ 4096 := fun y hy => by
  unfold riseL at hy
  obtain ⟨i, hi, rfl⟩ := List.mem_map.1 hy
  have h2 : d * i ≤ d * n := Nat.mul_le_mul_left d (by have := List.mem_range.1 hi; omega)
  omega
theorem kbools_made (n : Nat) (hn : n ≤ 4096) (w : World) :
    (Instr.makeSlice 24 (.int .i64 n) (.int .i64 n)).run Try.prog w = .ok (.slice (some ⟨w.heap.size, 0, none⟩) n n) (w.alloc (.cells (madeCells #[.bool false] n) 4)) := by
  obtain ⟨i, hi, hz, hs, hb⟩ := info_parts kbool_info
  have h := run_make (P := Try.prog) w 24 4 i (.bool false) Try.underlying24 hi hz .i64 .i64 n n (by omega) (Int.le_refl _) (by rw [hb]; omega) (by omega)
  simpa [hs, Value.cells] using h
theorem kbools_in (n : Nat) (hn : n ≤ 4096) (w : World) : BoolsIn (.slice (some ⟨w.heap.size, 0, none⟩) n n) (List.replicate n false) (w.alloc (.cells (madeCells #[.bool false] n) 4)) := by
  have e : (List.replicate n false).length = n := by simp
  unfold BoolsIn
  rw [e]
  refine ⟨by simp, some ⟨w.heap.size, 0, none⟩, n, rfl, Nat.le_refl _, by unfold maxLen; omega, fun _ => ⟨w.heap.size, 0, rfl, by rw [size_alloc]; omega, fun k u hk => ?_⟩, fun h => by cases h⟩
  have hl := (List.getElem?_eq_some_iff.1 hk).1
  rw [List.length_map, List.length_replicate] at hl
  rw [Nat.zero_add, World.cell?_alloc_mark, kz_cell _ _ _ hl, ← hk]
  simp [hl]
def recD (x a n : Nat) : Rec := ⟨2, 0, 0, riseL x 1 a, List.replicate n false, 0⟩
def recR (l : List Int) : Rec := ⟨3, 0, 0, l, [], 0⟩
theorem fitD (x a n : Nat) (hx : x + 1 * a ≤ 4096) : Fits (recD x a n) := ⟨⟨by show (-9223372036854775808 : Int) ≤ 2; omega, by show (2 : Int) ≤ _; omega⟩, by show 0 < _; omega, ⟨by show (-9223372036854775808 : Int) ≤ 0; omega, by show (0 : Int) ≤ _; omega⟩, fun y hy => by have := riseL_fit x 1 a hx y hy; omega, by show 0 < _; omega⟩
theorem fitR' (l : List Int) (h : ∀ y ∈ l, 0 ≤ y ∧ y ≤ 4096) : Fits (recR l) := ⟨⟨by show (-9223372036854775808 : Int) ≤ 3; omega, by show (3 : Int) ≤ _; omega⟩, by show 0 < _; omega, ⟨by show (-9223372036854775808 : Int) ≤ 0; omega, by show (0 : Int) ≤ _; omega⟩, fun y hy => by have := h y hy; omega, by show 0 < _; omega⟩
theorem okD (x a n : Nat) (h1 : 1 ≤ a) (hx : x + 1 * a ≤ 4096) : RecOk (recD x a n) ↔ a ≤ 24 ∧ n = a := by
  rw [ok_2 rfl]
  show (HomesOk (riseL x 1 a) 24 ∧ (List.replicate n false).length = (riseL x 1 a).length) ∧ Blank 0 0 0 0 ↔ _
  rw [riseL_ok x 1 a (by omega) h1 hx, riseL_length, List.length_replicate]
  unfold Blank
  omega
theorem okR' (l : List Int) : RecOk (recR l) ↔ HomesOk l 28 := by
  rw [ok_3 rfl]
  show HomesOk l 28 ∧ Blank 0 0 0 0 ↔ _
  unfold Blank; simp
theorem five_ok (x y : Nat) (hx : x ≤ 255) : HomesOk (riseL x 3 5 ++ [(y : Int)]) 28 ↔ (x + 12 < y ∧ y < 4096) := by
  have e : riseL x 3 5 ++ [(y : Int)] = [((x + 3 * 0 : Nat) : Int), ((x + 3 * 1 : Nat) : Int), ((x + 3 * 2 : Nat) : Int), ((x + 3 * 3 : Nat) : Int), ((x + 3 * 4 : Nat) : Int), (y : Int)] := rfl
  rw [e]
  unfold HomesOk
  constructor
  · rintro ⟨_, _, h⟩
    have h5 := h 5 (show 5 < 6 by omega)
    unfold upAt prevH hat at h5
    simp at h5
    omega
  · rintro h
    refine ⟨by show (1 : Int) ≤ 6; omega, by show (6 : Int) ≤ 28; omega, fun j hj => ?_⟩
    have hj : j < 6 := hj
    unfold upAt prevH hat
    rcases (show j = 0 ∨ j = 1 ∨ j = 2 ∨ j = 3 ∨ j = 4 ∨ j = 5 by omega) with rfl | rfl | rfl | rfl | rfl | rfl <;> simp <;> omega
/-- Encode, whatever it tells -/
theorem enc_either (r : Rec) (f : Fits r) : ∃ (S : ByteArray) (c : Int), (c == 0) = decide (RecOk r) ∧ ∀ vh vm w, RecIn r vh vm w → Calls Try.prog 10 #[recV r vh vm] w fun e w' => e = .returned (.tuple #[.string S, .int .i64 c]) ∧ Below w.heap.size w w' := by
  by_cases h : RecOk r
  · exact ⟨blk r, 0, by rw [decide_eq_true h]; rfl, fun vh vm w hr => enc_yes r h f vh vm w hr⟩
  · exact ⟨⟨#[]⟩, 2, by rw [decide_eq_false h]; rfl, fun vh vm w hr => enc_no r h f vh vm w hr⟩
theorem wpList_appM {ops : Array Oper} {rest : List Oper} {o : Oper} {a : Act} {Q : Exit → Act → World → Prop} {w : World} (hgd : o.guard = none) (s x : Operand)
    (ho : o.op = .call { callee := .builtin .append, args := #[s, x], argTypes := #[23, 23] })
    (base : Nat) (v : Value) (L : List Int) (hs : a.eval s = v) (hown : IntsOwn base v L w) (g n c : Nat) (M : List Int) (hM : M.length = n) (hx : a.eval x = .slice (some ⟨g, 0, none⟩) n c)
    (hc : ∀ j (h : j < M.length), w.cell? ⟨g, j, none⟩ = some (.int .i64 M[j])) (hlen : L.length ≤ 4000000) (hlen2 : n ≤ 4000000) (hbase : base ≤ w.heap.size)
    (h : ∀ v' w', IntsOwn base v' (L ++ M) w' → Below base w w' → wpList Try.prog ops Q rest (a.put o.dst v') w') : wpList Try.prog ops Q (o :: rest) a w := by
  obtain ⟨i0, hi, hz0, hz1, hz2⟩ := info_parts kint_info
  refine wpList_append_own (w := w) hgd s x 23 ho base 3 i0 (.int .i64 0) 1 8 Try.underlying23 hi hz0 hz1 hz2 rfl (by decide) v _ _ hs hown ⟨g, 0, none⟩ n c (M.map (Value.int .i64)) hx (by rw [List.length_map]; omega) (fun j u hj => by
    have hl := (List.getElem?_eq_some_iff.1 hj).1
    rw [List.length_map] at hl
    rw [add_at, Nat.zero_add, hc j hl, ← hj, List.getElem?_map, List.getElem?_eq_getElem hl]; rfl) (fun u hu => by obtain ⟨z, _, rfl⟩ := List.mem_map.1 hu; rfl) (by unfold maxLen; omega) (by omega) hbase ?_
  intro v' w' h1 h2 _
  refine h v' w' ?_ (below_of_row hown h2 hbase)
  show w'.ownsRow _ _ _ _ (L ++ M).length ((L ++ M).map _)
  rw [List.length_append, List.map_append, hM]; exact h1
theorem own_in' {B x d a : Nat} {v : Value} {w : World} (h : IntsOwn B v (riseL x d a) w) : IntsIn v (riseL x d a) w := own_in h
theorem kbools_in' (n : Nat) (hn : n ≤ 4096) (w : World) : BoolsIn (.slice (some ⟨w.heap.size, 0, none⟩) n n) (List.replicate n false) (w.alloc (.cells (madeCells #[.bool false] n) 4)) := kbools_in n hn w
theorem rise_cells {B gm b cm x : Nat} {w : World} (hb : 5 ≤ b) (h : IntsOwn B (.slice (some ⟨gm, 0, none⟩) b cm) (riseL x 3 b) w) : ∀ j (h : j < (riseL x 3 5).length), w.cell? ⟨gm, j, none⟩ = some (.int .i64 (riseL x 3 5)[j]) := fun j hj => by
  have hj5 : j < 5 := by rw [riseL_length] at hj; exact hj
  have h0 : w.ownsRow B 3 1 (.slice (some ⟨gm, 0, none⟩) b cm) b ((riseL x 3 b).map (Value.int .i64)) := by
    have e := riseL_length x 3 b
    have h' : w.ownsRow B 3 1 (.slice (some ⟨gm, 0, none⟩) b cm) (riseL x 3 b).length ((riseL x 3 b).map (Value.int .i64)) := h
    rwa [e] at h'
  have h1 := h0.cellAt j (by omega)
  rw [h1, List.getElem?_map, riseL_at x 3 b j (by omega)]
  have h2 : (riseL x 3 5)[j]? = some ((x + 3 * j : Nat) : Int) := riseL_at x 3 5 j hj5
  rw [List.getElem?_eq_getElem hj] at h2
  rw [Option.some.inj h2]; rfl
set_option maxHeartbeats 16000000 in
theorem many_walk (na nb x : Nat) (ha : na < 256) (hb : nb < 256) (hx : x < 256) (w : World) :
    Calls Try.prog 9 #[.agg #[.int .u8 (na : Int), .int .u8 (nb : Int)], .int .u8 (x : Int)] w fun e w' => e = .returned (.bool true) ∧ Below w.heap.size w w' := by
  have AL := Lib.hid alive_any
  have gh : Try.prog.stoodInHeld 27 = false := by kernel_rfl
  obtain ⟨a, hA, ha1, ha2⟩ : ∃ a : Nat, 22 + (na : Int) % 5 = (a : Int) ∧ 22 ≤ a ∧ a ≤ 26 := ⟨22 + na % 5, by omega, by omega, by omega⟩
  obtain ⟨b, hB, hb1, hb2⟩ : ∃ b : Nat, 26 + (nb : Int) % 5 = (b : Int) ∧ 26 ≤ b ∧ b ≤ 30 := ⟨26 + nb % 5, by omega, by omega, by omega⟩
  obtain ⟨S1, c1, e1, ENC1⟩ := enc_either (recD x a a) (fitD x a a (by omega))
  obtain ⟨S2, c2, e2, ENC2⟩ := enc_either (recR (riseL x 3 b)) (fitR' _ (riseL_fit x 3 b (by omega)))
  rw [dec_iff (okD x a a (by omega) (by omega))] at e1
  rw [dec_iff (okR' _), dec_iff (riseL_ok x 3 b (by omega) (by omega) (by omega) 28)] at e2
  have ENC3 := Lib.hid (fun vh vm w hr => enc_no (recD x a (a + 1)) (fun k => by have := (okD x a (a + 1) (by omega) (by omega)).1 k; omega) (fitD x a (a + 1) (by omega)) vh vm w hr)
  have f4 : ∀ y : Int, 0 ≤ y → y ≤ 4096 → ∀ z ∈ riseL x 3 5 ++ [y], 0 ≤ z ∧ z ≤ 4096 := fun y hy0 hy z hz => by
    rcases List.mem_append.1 hz with h | h
    · exact riseL_fit x 3 5 (by omega) z h
    · rw [List.mem_singleton] at h; omega
  have ENC4 := Lib.hid (fun vh vm w hr => enc_no (recR (riseL x 3 5 ++ [4096])) (fun k => by have := (five_ok x 4096 (by omega)).1 ((okR' _).1 k); omega) (fitR' _ (f4 4096 (by omega) (by omega))) vh vm w hr)
  have ENC5 := Lib.hid (fun vh vm w hr => enc_yes (recR (riseL x 3 5 ++ [4095])) ((okR' _).2 ((five_ok x 4095 (by omega)).2 (by omega))) (fitR' _ (f4 4095 (by omega) (by omega))) vh vm w hr)
  obtain ⟨A, hA1, hA2, hA3⟩ : ∃ A : Bool, (c1 == 0) = A ∧ decide ((a : Int) ≤ 24) = A ∧ decide (a ≤ 24) = A := ⟨_, rfl, by rw [e1]; exact dec_iff (by omega), by rw [e1]; exact dec_iff (by omega)⟩
  obtain ⟨B, hB1, hB2, hB3⟩ : ∃ B : Bool, (c2 == 0) = B ∧ decide ((b : Int) ≤ 28) = B ∧ decide (b ≤ 28) = B := ⟨_, rfl, by rw [e2], by rw [e2]; exact dec_iff (by omega)⟩
  have ENC1 := Lib.hid ENC1
  have ENC2 := Lib.hid ENC2
  have HAB := Lib.hid (And.intro hA1 (And.intro hA2 (And.intro hA3 (And.intro hB1 (And.intro hB2 hB3)))))
  generalize blk (recR (riseL x 3 5 ++ [4095])) = S5 at *
  have hb0 := balloc1 w (.cells #[.int .u8 (na : Int), .int .u8 (nb : Int)] 46)
  clear e1 e2 f4 hA1 hA2 hA3 hB1 hB2 hB3
  go_enter Try.func9, Try.ntmps9
  go_wp2
  clear hA hB
  generalize w.alloc (.cells #[.int .u8 (na : Int), .int .u8 (nb : Int)] 46) = w0 at *
  go_loopw [7, 9] (fun v q wr => ∃ k : Nat, q = .int .i64 k ∧ k ≤ a ∧ IntsOwn w.heap.size v (riseL x 1 k) wr ∧ Below w.heap.size w wr) (fun _ q _ => a - (intOf q).toNat)
  case atStart => exact ⟨0, rfl, Nat.zero_le _, World.ownsRow_nil _ _ _ _, hb0⟩
  case round =>
    clear hb0
    obtain ⟨k, rfl, hk, hown, hbr⟩ := hrel
    have hsr := hbr.size
    by_cases hlt : k < a
    · have HW := Lib.hid hown
      have HS := Lib.hid (riseL_succ x 1 k)
      have hl := riseL_length x 1 k
      have e1 : ((x + 1 * k : Nat) : Int) = (x : Int) + (k : Int) := by omega
      clear hown
      go_wp2_with (at_builtin; refine wpList_appI rfl _ _ rfl w.heap.size _ _ ((x : Int) + (k : Int)) rfl (HW.out.alloc _) wr rfl rfl (by omega) (by rw [size_alloc]; omega) ?_)
      intro v' w2 h2 b2
      have hb3 := (hbr.alloc hsr (.cells #[.int .i64 ((x : Int) + (k : Int))] 3)).trans b2
      rw [← e1, ← HS.out] at h2
      have H2 := Lib.hid h2
      clear hbr b2 h2 HW e1 hl
      go_wp2
      exact ⟨⟨k + 1, by go_num, by omega, H2.out, hb3⟩, by simp [intOf]; omega⟩
    · obtain rfl : k = a := by omega
      obtain ⟨al, cl, hvl, hl1, hl2, -⟩ := shape_of hown
      rw [riseL_length] at hvl hl1
      subst hvl
      have HVL0 := Lib.hid hown
      clear hown
      obtain ⟨w1, rfl⟩ : ∃ w1, w1 = wr := ⟨_, rfl⟩
      go_wp2
      go_loopw [8, 10] (fun v q wr => ∃ j : Nat, q = .int .i64 j ∧ j ≤ b ∧ IntsOwn w1.heap.size v (riseL x 3 j) wr ∧ Below w1.heap.size w1 wr) (fun _ q _ => b - (intOf q).toNat)
      case atStart => exact ⟨0, rfl, Nat.zero_le _, World.ownsRow_nil _ _ _ _, Below.refl _ _⟩
      case round =>
        obtain ⟨j, rfl, hj, hown, hbt⟩ := hrel
        have hst := hbt.size
        by_cases hlt2 : j < b
        · have HW := Lib.hid hown
          have HS := Lib.hid (riseL_succ x 3 j)
          have hl := riseL_length x 3 j
          have e1 : ((x + 3 * j : Nat) : Int) = (x : Int) + 3 * (j : Int) := by omega
          clear hown
          go_wp2_with (at_builtin; refine wpList_appI rfl _ _ rfl w1.heap.size _ _ ((x : Int) + 3 * (j : Int)) rfl (HW.out.alloc _) wr rfl rfl (by omega) (by rw [size_alloc]; omega) ?_)
          intro v' w2 h2 b2
          have hb3 := (hbt.alloc hst (.cells #[.int .i64 ((x : Int) + 3 * (j : Int))] 3)).trans b2
          rw [← e1, ← HS.out] at h2
          have H2 := Lib.hid h2
          clear hbt b2 h2 HW e1 hl
          go_wp2
          exact ⟨⟨j + 1, by go_num, by omega, H2.out, hb3⟩, by simp [intOf]; omega⟩
        · obtain rfl : j = b := by omega
          obtain ⟨am, cm, hvm, hm1, hm2, hm3⟩ := shape_of hown
          rw [riseL_length] at hvm hm1 hm3
          subst hvm
          obtain ⟨gm, rfl, hgm1, hgm2⟩ := hm3 (by omega)
          have hm2 : cm ≤ 9223372036854775807 := hm2
          have hbw := bnext hbr hbt
          have HVM := Lib.hid hown
          have HVL := Lib.hid (row_kept HVL0.out hbt)
          clear hown hbr hbt hm3 HVL0
          have mk := kbools_made (k) (by omega) wr
          have hIn : RecIn (recD x k (k)) (.slice al k cl) (.slice (some ⟨wr.heap.size, 0, none⟩) (k) (k)) (wr.alloc (.cells (madeCells #[.bool false] (k)) 4)) := ⟨own_in' (row_kept HVL.out (balloc1 wr (.cells (madeCells #[.bool false] (k)) 4))), kbools_in' (k) (by omega) wr⟩
          have hVM2 := row_kept HVM.out (balloc1 wr (.cells (madeCells #[.bool false] (k)) 4))
          have hVL2 := row_kept HVL.out (balloc1 wr (.cells (madeCells #[.bool false] (k)) 4))
          have hb2 := balloc hbw (.cells (madeCells #[.bool false] (k)) 4)
          have HVM := Lib.hid hVM2
          have HVL := Lib.hid hVL2
          have hbw := hb2
          clear hb2 hVM2 hVL2
          obtain ⟨wm, hwm⟩ : ∃ wm, wr.alloc (.cells (madeCells #[.bool false] (k)) 4) = wm := ⟨_, rfl⟩
          rw [hwm] at hIn HVM HVL hbw mk
          have EE := Lib.hid (ENC1.out _ _ _ hIn)
          go_wp2_with fail
          refine EE.out.mono ?_; rintro e x1 ⟨rfl, bN⟩
          have hVM2 := row_kept HVM.out bN
          have hVL2 := row_kept HVL.out bN
          have hb2 := bnext hbw bN
          clear EE hbw HVM HVL bN hIn
          have HVM := Lib.hid hVM2
          have HVL := Lib.hid hVL2
          have hbw := hb2
          clear hb2 hVM2 hVL2
          clear mk hwm
          have hIn : RecIn (recR (riseL x 3 j)) (.slice (some ⟨gm, 0, none⟩) j cm) (.slice none 0 0) x1 := ⟨own_in' HVM.out, RowIn.nil 1 _⟩
          have EE := Lib.hid (ENC2.out _ _ _ hIn)
          go_wp2_with fail
          refine EE.out.mono ?_; rintro e x2 ⟨rfl, bN⟩
          have hVM2 := row_kept HVM.out bN
          have hVL2 := row_kept HVL.out bN
          have hb2 := bnext hbw bN
          clear EE hbw HVM HVL bN hIn
          have HVM := Lib.hid hVM2
          have HVL := Lib.hid hVL2
          have hbw := hb2
          clear hb2 hVM2 hVL2
          have mk := kbools_made (k + 1) (by omega) x2
          rw [show ((k + 1 : Nat) : Int) = (k : Int) + 1 by omega] at mk
          have hIn : RecIn (recD x k (k + 1)) (.slice al k cl) (.slice (some ⟨x2.heap.size, 0, none⟩) (k + 1) (k + 1)) (x2.alloc (.cells (madeCells #[.bool false] (k + 1)) 4)) := ⟨own_in' (row_kept HVL.out (balloc1 x2 (.cells (madeCells #[.bool false] (k + 1)) 4))), kbools_in' (k + 1) (by omega) x2⟩
          have hVM2 := row_kept HVM.out (balloc1 x2 (.cells (madeCells #[.bool false] (k + 1)) 4))
          have hVL2 := row_kept HVL.out (balloc1 x2 (.cells (madeCells #[.bool false] (k + 1)) 4))
          have hb2 := balloc hbw (.cells (madeCells #[.bool false] (k + 1)) 4)
          have HVM := Lib.hid hVM2
          have HVL := Lib.hid hVL2
          have hbw := hb2
          clear hb2 hVM2 hVL2
          obtain ⟨wm, hwm⟩ : ∃ wm, x2.alloc (.cells (madeCells #[.bool false] (k + 1)) 4) = wm := ⟨_, rfl⟩
          rw [hwm] at hIn HVM HVL hbw mk
          have EE := Lib.hid (ENC3.out _ _ _ hIn)
          go_wp2_with fail
          refine EE.out.mono ?_; rintro e x3 ⟨rfl, bN⟩
          have hVM2 := row_kept HVM.out bN
          have hVL2 := row_kept HVL.out bN
          have hb2 := bnext hbw bN
          clear EE hbw HVM HVL bN hIn
          have HVM := Lib.hid hVM2
          have HVL := Lib.hid hVL2
          have hbw := hb2
          clear hb2 hVM2 hVL2
          clear mk hwm
          have hlit : IntsOwn x3.heap.size (.slice (some ⟨x3.heap.size, 0, none⟩) 0 0) [] (x3.alloc (.cells #[] 3)) := World.ownsRow_lit (e := 3) (size := 1) x3 #[] 0 (Nat.le_refl _) (by unfold maxLen; omega) rfl
          have hbl := balloc1 x3 (.cells #[] 3)
          have hcell := rise_cells (b := j) (by omega) (row_kept HVM.out hbl)
          have HC := Lib.hid hcell
          have HL := Lib.hid hlit
          clear hcell hlit
          go_wp2_with (at_builtin; refine wpList_appM rfl _ _ rfl x3.heap.size _ [] rfl HL.out gm 5 cm (riseL x 3 5) (riseL_length x 3 5) rfl HC.out (by simp) (by omega) hbl.size ?_)
          intro v5 x4 h5 bB
          have hbB := hbl.trans bB
          have hsB := hbB.size
          try rw [List.nil_append] at h5
          have HL5 := Lib.hid h5
          clear HL HC h5 bB hbl
          go_wp2_with (at_builtin; refine wpList_appI rfl _ _ rfl x3.heap.size _ _ 4096 rfl (HL5.out.alloc _) x4 rfl rfl (by rw [riseL_length]; omega) (by rw [size_alloc]; omega) ?_)
          intro v6 x5 h6 bC
          have hbC := (hbB.alloc hsB (.cells #[.int .i64 4096] 3)).trans bC
          obtain ⟨a6, c6, rfl, -⟩ := shape_of h6
          have hIn : RecIn (recR (riseL x 3 5 ++ [4096])) _ (.slice none 0 0) x5 := ⟨own_in h6, RowIn.nil 1 _⟩
          have hVM2 := row_kept HVM.out hbC
          have hVL2 := row_kept HVL.out hbC
          have hb2 := bnext hbw hbC
          clear HL5 bC hbB hsB hbw HVM HVL h6
          have HVM := Lib.hid hVM2
          have HVL := Lib.hid hVL2
          have hbw := hb2
          clear hb2 hVM2 hVL2 hbC
          have EE := Lib.hid (ENC4.out _ _ _ hIn)
          go_wp2_with fail
          refine EE.out.mono ?_; rintro e x6 ⟨rfl, bN⟩
          have hVM2 := row_kept HVM.out bN
          have hVL2 := row_kept HVL.out bN
          have hb2 := bnext hbw bN
          clear EE hbw HVM HVL bN hIn
          have HVM := Lib.hid hVM2
          have HVL := Lib.hid hVL2
          have hbw := hb2
          clear hb2 hVM2 hVL2
          have hlit : IntsOwn x6.heap.size (.slice (some ⟨x6.heap.size, 0, none⟩) 0 0) [] (x6.alloc (.cells #[] 3)) := World.ownsRow_lit (e := 3) (size := 1) x6 #[] 0 (Nat.le_refl _) (by unfold maxLen; omega) rfl
          have hbl := balloc1 x6 (.cells #[] 3)
          have hcell := rise_cells (b := j) (by omega) (row_kept HVM.out hbl)
          have HC := Lib.hid hcell
          have HL := Lib.hid hlit
          clear hcell hlit
          go_wp2_with (at_builtin; refine wpList_appM rfl _ _ rfl x6.heap.size _ [] rfl HL.out gm 5 cm (riseL x 3 5) (riseL_length x 3 5) rfl HC.out (by simp) (by omega) hbl.size ?_)
          intro v5 x7 h5 bB
          have hbB := hbl.trans bB
          have hsB := hbB.size
          try rw [List.nil_append] at h5
          have HL5 := Lib.hid h5
          clear HL HC h5 bB hbl
          go_wp2_with (at_builtin; refine wpList_appI rfl _ _ rfl x6.heap.size _ _ 4095 rfl (HL5.out.alloc _) x7 rfl rfl (by rw [riseL_length]; omega) (by rw [size_alloc]; omega) ?_)
          intro v6 x8 h6 bC
          have hbC := (hbB.alloc hsB (.cells #[.int .i64 4095] 3)).trans bC
          obtain ⟨a6, c6, rfl, -⟩ := shape_of h6
          have hIn : RecIn (recR (riseL x 3 5 ++ [4095])) _ (.slice none 0 0) x8 := ⟨own_in h6, RowIn.nil 1 _⟩
          have hVM2 := row_kept HVM.out hbC
          have hVL2 := row_kept HVL.out hbC
          have hb2 := bnext hbw hbC
          clear HL5 bC hbB hsB hbw HVM HVL h6
          have HVM := Lib.hid hVM2
          have HVL := Lib.hid hVL2
          have hbw := hb2
          clear hb2 hVM2 hVL2 hbC
          have EE := Lib.hid (ENC5.out _ _ _ hIn)
          go_wp2_with fail
          refine EE.out.mono ?_; rintro e x9 ⟨rfl, bN⟩
          have hVM2 := row_kept HVM.out bN
          have hVL2 := row_kept HVL.out bN
          have hb2 := bnext hbw bN
          clear EE hbw HVM HVL bN hIn
          have HVM := Lib.hid hVM2
          have HVL := Lib.hid hVL2
          have hbw := hb2
          clear hb2 hVM2 hVL2
          obtain ⟨q1, q2, q3, q4, q5, q6⟩ := HAB.out
          go_wp2_with fail
          refine (AL.out _).mono ?_; rintro e y1 ⟨rfl, bN⟩
          have hbz := bnext hbw bN
          clear hbw bN HVM HVL
          go_wp2
          go_ret
          exact ⟨by simp, hbz⟩
end Go.Proofs.Ythkmcfomnkcljaa

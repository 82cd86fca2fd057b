/- read: the program's reader. -/
import Derived.Test.YtogdogadejjmeaaENum
import Derived.Test.YtogdogadejjmeaaEMath2
import Derived.Test.YtogdogadejjmeaaWGetI
namespace Go.Proofs.Ytogdogadejjmeaa
set_option linter.unusedVariables false
open Go.RowKit

theorem den_info : (Try.prog.info? 25).map (fun i => (i.zero, i.size, i.bytes)) = some (some (.agg #[.string ⟨#[]⟩, .int .i64 0]), 2, 24) := by kernel_rfl
theorem new_den (w : World) (d : Den) : ∀ (j : Nat) (u : Value), [Value.string d.name, Value.int .i64 d.ino][j]? = some u → (w.alloc (.cells (denC d) 25)).cell? ((⟨w.heap.size, 0, none⟩ : Addr).add j) = some u := fun j u hj => by
  rw [add_at, Nat.zero_add, World.cell?_alloc_mark]
  simpa using hj
/-- an entry that is put behind a row of the call's own -/
theorem wpList_appD {ops : Array Oper} {rest : List Oper} {o : Oper} {a : Act} {Q : Exit → Act → World → Prop} {w : World} (hgd : o.guard = none) (s x : Operand)
    (ho : o.op = .call { callee := .builtin .append, args := #[s, x], argTypes := #[22, 22] })
    (base : Nat) (v : Value) (L : List Den) (k : Den) (hs : a.eval s = v) (hown : DensAt base v L w) (W : World) (hW : w = W.alloc (.cells (denC k) 25)) (hx : a.eval x = .slice (some ⟨W.heap.size, 0, none⟩) 1 1)
    (hlen : L.length ≤ 4000000) (hbase : base ≤ w.heap.size)
    (h : ∀ v' w', DensAt base v' (L ++ [k]) w' → Below base w w' → wpList Try.prog ops Q rest (a.put o.dst v') w') : wpList Try.prog ops Q (o :: rest) a w := by
  obtain ⟨i0, hi, hz0, hz1, hz2⟩ := info_parts den_info
  subst hW
  refine wpList_append_own (w := W.alloc (.cells (denC k) 25)) hgd s x 22 ho base 25 i0 (.agg #[.string ⟨#[]⟩, .int .i64 0]) 2 24 Try.underlying22 hi hz0 hz1 hz2 rfl (by decide) v _ _ hs hown ⟨W.heap.size, 0, none⟩ 1 1 [.string k.name, .int .i64 k.ino] hx rfl (new_den W k) (fun u hu => by simp at hu; rcases hu with rfl | rfl <;> rfl) (by unfold maxLen; omega) (by omega) hbase ?_
  intro v' w' h1 h2 _
  refine h v' w' ?_ (below_of_row hown h2 hbase)
  show w'.ownsRow _ _ _ _ (L ++ [k]).length (cellsD (L ++ [k]))
  rw [List.length_append, cellsD_append]; exact h1

theorem intV_first {s : ByteArray} (h : 0 < s.size) : intV s 0 1 = s[0].toNat := by
  have hf : fieldOk s.size ((0 : Nat) : Int) ((1 : Nat) : Int) = true := by unfold fieldOk; simp; omega
  have hg : getV s ((0 : Nat) : Int) ((1 : Nat) : Int) = s[0].toNat := by
    rw [getV_yes hf, fieldAt_succ s 0 0 (by omega)]
    simp [fieldAt, leN]
  have hl := s[0].toNat_lt
  have hi : intOk s ((0 : Nat) : Int) ((1 : Nat) : Int) = true := by unfold intOk; rw [hf, hg]; simp; omega
  show intV s ((0 : Nat) : Int) ((1 : Nat) : Int) = _
  unfold intV; rw [if_pos hi, hg]
theorem intV_none {s : ByteArray} (h : s.size = 0) : intV s 0 1 = 0 := by
  have hf : fieldOk s.size ((0 : Nat) : Int) ((1 : Nat) : Int) = false := by unfold fieldOk; simp; omega
  have hi : intOk s ((0 : Nat) : Int) ((1 : Nat) : Int) = false := by unfold intOk; rw [hf]; rfl
  show intV s ((0 : Nat) : Int) ((1 : Nat) : Int) = _
  unfold intV; rw [if_neg (by rw [hi]; decide)]
theorem intV_four {s : ByteArray} {a : Nat} (h : a + 4 ≤ s.size) : intOk s (a : Int) 4 = true ∧ intV s (a : Int) 4 = leN (fieldAt s a 4) ∧ leN (fieldAt s a 4) < 4294967296 := by
  have hf : fieldOk s.size (a : Int) ((4 : Nat) : Int) = true := by unfold fieldOk; simp; omega
  have hg : getV s (a : Int) ((4 : Nat) : Int) = leN (fieldAt s a 4) := getV_yes hf
  have hl := leN_lt (fieldAt s a 4)
  rw [fieldAt_length s a 4 h] at hl
  have hi : intOk s (a : Int) ((4 : Nat) : Int) = true := by unfold intOk; rw [hf, hg]; simp; omega
  refine ⟨hi, ?_, by omega⟩
  show intV s (a : Int) ((4 : Nat) : Int) = _
  unfold intV; rw [if_pos hi, hg]
theorem intV_byte0 (s : ByteArray) : intV s 0 1 < 256 := by
  by_cases h : 0 < s.size
  · rw [intV_first h]; exact s[0].toNat_lt
  · rw [intV_none (by omega)]; omega
theorem byte_ne {c : UInt8} (h : c.toNat ≠ 0) : c ≠ 0 := fun e => h (by rw [e]; rfl)
theorem byte_eq {c : UInt8} (h : c.toNat = 0) : c = 0 := by
  have := UInt8.ofNat_toNat (x := c)
  rw [h] at this; rw [← this]; rfl
/-- a step of the reader -/
theorem read_step (s : ByteArray) : ((intV s 0 1 = 0 ∨ s.size < 5 + intV s 0 1) → readB s = []) ∧
    (intV s 0 1 ≠ 0 → 5 + intV s 0 1 ≤ s.size → readB s = ⟨s.extract 5 (5 + intV s 0 1), (intV s 1 4 : Int)⟩ :: readB (s.extract (5 + intV s 0 1) s.size) ∧ intV s 1 4 < 4294967296 ∧ (s.extract (5 + intV s 0 1) s.size).size = s.size - (5 + intV s 0 1)) := by
  by_cases h : 0 < s.size
  · rw [intV_first h]
    constructor
    · rintro (h0 | h1)
      · exact readB_zero h (byte_eq h0)
      · exact readB_cut h h1
    · intro h0 h1
      obtain ⟨_, e, hl⟩ := intV_four (s := s) (a := 1) (by omega)
      have e : intV s 1 4 = leN (fieldAt s 1 4) := e
      rw [e]
      exact ⟨readB_more h (byte_ne h0) h1, hl, by rw [ByteArray.size_extract]; omega⟩
  · rw [intV_none (by omega)]
    exact ⟨fun _ => readB_nil (by omega), fun h0 => absurd rfl h0⟩
def sizeOfS : Value → Nat
  | .string s => s.size
  | _ => 0
set_option maxRecDepth 100000 in
set_option maxHeartbeats 4000000 in
theorem read_any (b : ByteArray) (hb : b.size ≤ 4000) (w : World) :
    Calls Try.prog 29 #[.string b] w fun e w' => ∃ v, e = .returned v ∧ DensAt w.heap.size v (readB b) w' ∧ Below w.heap.size w w' := by
  have HG := Lib.hid fun (s : ByteArray) (hs : s.size ≤ 4000) a z w => getInt_any s (by unfold maxLen; omega) a z w
  have HS := Lib.hid read_step
  have HB := Lib.hid intV_byte0
  obtain ⟨R, hR⟩ : ∃ R, R = readB b := ⟨_, rfl⟩
  have H0 : Hid ([] ++ readB b = R) := Lib.hid hR.symm
  rw [← hR]
  clear hR
  go_enter Try.func29, Try.ntmps29
  go_wp2
  go_loopw [0, 3] (fun r v wr => ∃ (s : ByteArray) (acc : List Den), r = .string s ∧ Hid (acc ++ readB s = R) ∧ acc.length + s.size ≤ 4000 ∧ DensAt w.heap.size v acc wr ∧ Below w.heap.size w wr) (fun r _ _ => sizeOfS r)
  case atStart => exact ⟨b, [], rfl, H0, by simpa using hb, World.ownsRow_nil _ _ _ _, Below.refl _ _⟩
  case round =>
    obtain ⟨s, acc, rfl, HR, hsz, hown, hbw⟩ := hrel
    have G1 := HG.out s (by omega) 0 1
    have G2 := HG.out s (by omega) 1 4
    obtain ⟨hs1, hs2⟩ := HS.out s
    have hb0 := HB.out s
    obtain ⟨ad, cap, rfl, p1, p2, -⟩ := shape_of hown
    generalize hn : intV s 0 1 = n at *
    generalize hm : intV s 1 4 = m at *
    by_cases h0 : n = 0
    · have HE := Lib.hid (hs1 (.inl h0))
      have t0 : ((n : Int) == 0) = true := by rw [beq_iff_eq]; omega
      have HF : Hid (acc = R) := Lib.hid (by have := HR.out; rw [HE.out, List.append_nil] at this; exact this)
      have G1 := Lib.hid G1
      clear hs1 hs2 HE G2 HR h0 hn hm
      go_wp2_with fail
      refine (G1.out _).mono ?_; rintro e w2 ⟨rfl, rfl⟩
      go_wp2
      go_ret
      exact ⟨_, rfl, by rw [← HF.out]; exact hown, hbw⟩
    · have t0 : ((n : Int) == 0) = false := by rw [beq_eq_false_iff_ne]; omega
      by_cases h1 : s.size < 5 + n
      · have HE := Lib.hid (hs1 (.inr h1))
        have HF : Hid (acc = R) := Lib.hid (by have := HR.out; rw [HE.out, List.append_nil] at this; exact this)
        have G1 := Lib.hid G1
        have t1 : decide ((s.size : Int) < 5 + (n : Int)) = true := decide_eq_true (by omega)
        clear hs1 hs2 HE G2 HR h0 hn hm h1
        go_wp2_with fail
        refine (G1.out _).mono ?_; rintro e w2 ⟨rfl, rfl⟩
        go_wp2
        go_ret
        exact ⟨_, rfl, by rw [← HF.out]; exact hown, hbw⟩
      · obtain ⟨e1, e2, e3⟩ := hs2 h0 (by omega)
        have t1 : decide ((s.size : Int) < 5 + (n : Int)) = false := decide_eq_false (by omega)
        have HE := Lib.hid e1
        have G1 := Lib.hid G1
        have G2 := Lib.hid G2
        have HZ := Lib.hid e3
        have hle : 5 + n ≤ s.size := by omega
        have hbs := hbw.size
        clear hs1 hs2 h0 hn hm h1 e1 e3
        go_wp2_with fail
        refine (G1.out _).mono ?_; rintro e w2 ⟨rfl, rfl⟩
        go_wp2_with fail
        refine (G2.out _).mono ?_; rintro e w2 ⟨rfl, rfl⟩
        go_wp2_with (at_builtin; refine wpList_appD rfl _ _ rfl w.heap.size _ acc ⟨s.extract 5 (5 + n), (m : Int)⟩ rfl (World.ownsRow.alloc hown _) wr rfl rfl (by omega) (by rw [size_alloc]; omega) ?_)
        intro v5 w5 hv5 b5
        have hb5 := (balloc hbw _).trans b5
        have HF : Hid ((acc ++ [⟨s.extract 5 (5 + n), (m : Int)⟩]) ++ readB (s.extract (5 + n) s.size) = R) := Lib.hid (by rw [← HR.out, HE.out, List.append_assoc]; rfl)
        clear HE G1 G2 HR b5 hown hbw
        go_wp2
        exact ⟨⟨_, _, rfl, HF, by have := HZ.out; simp; omega, hv5, hb5⟩, by have := HZ.out; simp [sizeOfS]; omega⟩
end Go.Proofs.Ytogdogadejjmeaa

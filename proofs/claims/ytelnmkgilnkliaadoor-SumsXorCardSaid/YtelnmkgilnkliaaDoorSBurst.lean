/- The walk of SumsBurst. -/
import Derived.Test.YtelnmkgilnkliaaDoorSThree
import Derived.Laws.IdiomStrings
import Derived.Lib.Strings
import Derived.Deep.QuietTactic
import Derived.BigQuiet
namespace Go.Proofs.YtelnmkgilnkliaaDoor
open Go.RowKit

/-- what a string's bytes become in memory -/
theorem bytes_made (s : ByteArray) (w : World) : ∃ (cap lo : Nat) (C : Array Value), (convert 9 34 (.string s)).run Tryd.prog w = .ok (.slice (some ⟨w.heap.size, 0, none⟩) s.size cap) (w.alloc (.cells C 5 (lo, lo + 1))).drew ∧ s.size ≤ lo ∧ ∀ j (h : j < s.size), C[j]? = some (.int .u8 ((s.data.toList[j]'(by simpa using h)).toNat : Int)) := by
  refine ⟨_, _, _, run_bytes_of_string w 9 34 5 s Tryd.underlying9 Tryd.underlying34 Tryd.underlying5, ?_, fun j h => ?_⟩
  · unfold bytesRow; simp
  · rw [bytesRow_at s _ j h]; simp
theorem plain_add (b o j : Nat) : (⟨b, o, none⟩ : Addr).add j = ⟨b, o + j, none⟩ := by unfold Addr.add; split <;> simp_all

set_option maxHeartbeats 400000 in
theorem burst_out (s : ByteArray) (hs : s.size ≤ maxLen) (at' t : Nat) (hat : at' < 4294967296) (ht' : t < 4294967296) (h : s.size < 5 ∨ 20000 < s.size) (w : World) (ht : Tab w) :
    Calls Tryd.prog 8 #[.string s, .int .u32 at', .int .u32 t] w fun e w' => e = .returned (.bool true) ∧ Below w.heap.size w w' := by
  have AL := Lib.hid (alive_any w ht)
  clear ht
  unfold maxLen at hs
  rcases h with h | h
  all_goals
    go_enter Tryd.func8, Tryd.ntmps8
    go_wp2_with fail
    refine AL.out.mono ?_; rintro e w' ⟨rfl, rfl⟩
    go_wp2
    go_ret
    exact ⟨rfl, Below.refl _ _⟩

theorem xor8 (a b : Nat) (ha : a < 256) (hb : b < 256) : bits .xor .u8 (a : Int) (b : Int) = ((a ^^^ b : Nat) : Int) := by
  have h1 : (BitVec.ofInt 8 (a : Int)).toNat = a := by rw [BitVec.ofInt_natCast, BitVec.toNat_ofNat]; exact Nat.mod_eq_of_lt (by omega)
  have h2 : (BitVec.ofInt 8 (b : Int)).toNat = b := by rw [BitVec.ofInt_natCast, BitVec.toNat_ofNat]; exact Nat.mod_eq_of_lt (by omega)
  have hx : a ^^^ b < 2 ^ 8 := Nat.xor_lt_two_pow (n := 8) ha hb
  show IntKind.u8.wrap ((BitVec.ofInt 8 (a : Int) ^^^ BitVec.ofInt 8 (b : Int)).toNat : Int) = _
  rw [BitVec.toNat_xor, h1, h2]
  simp [IntKind.wrap, IntKind.bits, IntKind.signed]; omega

theorem bits_on (t k j N : Nat) (hb : t / 2 ^ j % 2 = 1) (hN : k + j ≤ N) : shN (N - k) (t % 2 ^ (j + 1)) = shN (N - k) (t % 2 ^ j) ^^^ shN (N - (k + j)) 1 := by
  have e : t % 2 ^ (j + 1) = 2 ^ j * 1 ^^^ t % 2 ^ j := by
    rw [Nat.mod_pow_succ, hb, Nat.add_comm, pow_add_xor _ _ j (Nat.mod_lt _ (Nat.pow_pos (by decide)))]
  have e2 : shN (N - k) (2 ^ j * 1) = shN (N - (k + j)) 1 := by
    rw [show N - k = j + (N - (k + j)) by omega, shN_add, shN_pow]
  rw [e, shN_xor, e2, Nat.xor_comm]
theorem bits_off (t j : Nat) (hb : t / 2 ^ j % 2 = 0) : t % 2 ^ (j + 1) = t % 2 ^ j := by
  rw [Nat.mod_pow_succ, hb]; simp
/-- what was turned is seen -/
theorem burst_eq (a t n : Nat) (ht : t < 4294967296) : decide (4294967295 ^^^ (a ^^^ shN n t) = 4294967295 ^^^ a) = decide (t = 0) := by
  rw [decide_eq_decide]
  constructor
  · intro h
    have h1 := congrArg (fun x => 4294967295 ^^^ x) h
    simp only [ones] at h1
    exact shN_ne n t ht (xor_cancel a _ h1)
  · rintro rfl
    rw [shN_zero, Nat.xor_zero]

set_option maxHeartbeats 400000 in
theorem burst_in (s : ByteArray) (at' t : Nat) (hat : at' < 4294967296) (ht' : t < 4294967296) (h5 : 5 ≤ s.size) (h2 : s.size ≤ 20000) (w : World) (ht : Tab w) :
    Calls Tryd.prog 8 #[.string s, .int .u32 at', .int .u32 t] w fun e w' => e = .returned (.bool true) ∧ Below w.heap.size w w' := by
  obtain ⟨cap, lo, C, hconv, hlo, hC⟩ := bytes_made s w
  have HC := Lib.hid hC
  have HT := Lib.hid ht
  clear hC ht
  obtain ⟨k, hk, hk8⟩ : ∃ k : Nat, (at' : Int) % (8 * (s.size : Int) - 31) = (k : Int) ∧ k + 32 ≤ 8 * s.size := by
    have h0 : 0 ≤ (at' : Int) % (8 * (s.size : Int) - 31) := Int.emod_nonneg _ (by omega)
    have h1 : (at' : Int) % (8 * (s.size : Int) - 31) < 8 * (s.size : Int) - 31 := Int.emod_lt_of_pos _ (by omega)
    exact ⟨((at' : Int) % (8 * (s.size : Int) - 31)).toNat, by omega, by omega⟩
  go_enter Tryd.func8, Tryd.ntmps8
  go_wp2
  simp only [hk]
  clear hk hconv
  go_loopw [10] (fun i wr => ∃ j : Nat, j ≤ 32 ∧ i = .int .i64 j ∧ Below w.heap.size w wr ∧ w.heap.size < wr.heap.size ∧ ∃ l : List UInt8, Hid (l.length = s.size) ∧ Hid (run 4294967295 l = run 4294967295 s.data.toList ^^^ shN (8 * s.size - k) (t % 2 ^ j)) ∧ ∀ q (h : q < s.size), wr.cell? ⟨w.heap.size, q, none⟩ = some (.int .u8 (((l[q]?.getD 0).toNat : Nat) : Int)) ∧ wr.frozen? ⟨w.heap.size, q, none⟩ = false) (fun i _ => 32 - (intOf i).toNat)
  case atStart =>
    refine ⟨0, by decide, rfl, ((Below.refl _ _).alloc (Nat.le_refl _) _).drew, by show _ < (w.heap.push _).size; simp, s.data.toList, Lib.hid rfl, Lib.hid ?_, fun q h => ⟨?_, ?_⟩⟩
    · rw [show t % 2 ^ 0 = 0 by omega, shN_zero, Nat.xor_zero]
    · show (w.alloc (.cells C 5 (lo, lo + 1))).cell? _ = _
      rw [World.cell?_alloc_mark, HC.out q h, List.getElem?_eq_getElem (by simpa using h)]; rfl
    · show (w.alloc (.cells C 5 (lo, lo + 1))).frozen? _ = _
      rw [World.frozen?_alloc_mark]; simp; omega
  case round =>
    obtain ⟨j, hj, rfl, hb, hsz, l, HL, HR, hc⟩ := hrel
    by_cases hlt : j < 32
    · obtain ⟨q, hq⟩ : ∃ q : Nat, (k : Int) + (j : Int) = (q : Int) := ⟨k + j, by omega⟩
      have hq1 : q / 8 < s.size := by omega
      have hq2 : q ≤ 160000 := by omega
      obtain ⟨hc1, hf1⟩ := hc (q / 8) hq1
      have HK := Lib.hid hc
      have HQ := Lib.hid (show k + j = q by omega)
      clear hc
      by_cases hbit : t / 2 ^ j % 2 = 1
      · have hta := bit_at t j ht' true (by simp [hbit])
        have hlen : q / 8 < l.length := by rw [HL.out]; exact hq1
        obtain ⟨x, hx0⟩ : ∃ x, l[q / 8]?.getD 0 = x := ⟨_, rfl⟩
        rw [hx0] at hc1
        obtain ⟨v, hv, f⟩ : ∃ v : UInt8, v.toNat = x.toNat ^^^ 2 ^ (q % 8) ∧ bits .xor .u8 (x.toNat : Int) (2 ^ (q % 8) % 256) = ((v.toNat : Nat) : Int) := by
          have hp : (2 : Nat) ^ (q % 8) < 2 ^ 8 := Nat.pow_lt_pow_right (by decide) (by omega)
          have hx : x.toNat ^^^ 2 ^ (q % 8) < 2 ^ 8 := Nat.xor_lt_two_pow (n := 8) (UInt8.toNat_lt _) hp
          have e1 : (UInt8.ofNat (x.toNat ^^^ 2 ^ (q % 8))).toNat = x.toNat ^^^ 2 ^ (q % 8) := by
            simp only [UInt8.toNat_ofNat']; exact Nat.mod_eq_of_lt hx
          refine ⟨_, e1, ?_⟩
          rw [e1, ← xor8 _ _ (UInt8.toNat_lt _) hp]
          congr 1
          have e2 : ((2 ^ (q % 8) : Nat) : Int) = 2 ^ (q % 8) := by rw [Int.natCast_pow]; rfl
          have e3 : (0 : Int) ≤ 2 ^ (q % 8) := by rw [← e2]; exact Int.natCast_nonneg _
          omega
        have hxl : x = l[q / 8] := by rw [← hx0, List.getElem?_eq_getElem hlen]; rfl
        have HV := Lib.hid hv
        have HT1 := Lib.hid (run_turn 4294967295 l (q / 8) (q % 8) v hlen (by omega) (by rw [hv, hxl]))
        have HB := Lib.hid (bits_on t k j (8 * s.size) hbit (by omega))
        clear hbit hv hxl hx0
        go_wp2
        refine ⟨⟨j + 1, by omega, by go_num, hb.setCell (Nat.le_refl _) _, by simpa [World.setCell] using hsz, l.set (q / 8) v, Lib.hid (by rw [List.length_set]; exact HL.out), Lib.hid ?_, fun i hi => ⟨?_, ?_⟩⟩, by simp [intOf]; omega⟩
        · rw [HT1.out, HR.out, HB.out, HL.out, Nat.xor_assoc, show 8 * (q / 8) + q % 8 = k + j by rw [HQ.out]; omega]
        · by_cases hi' : i = q / 8
          · subst hi'
            rw [World.cell?_setCell_same _ _ _ hc1, List.getElem?_set_self hlen]; rfl
          · rw [World.cell?_setCell_other _ _ _ _ (by simp [hi']), List.getElem?_set_ne (by omega)]
            exact (HK.out i hi).1
        · rw [World.frozen?_setCell]; exact (HK.out i hi).2
      · have hta := bit_at t j ht' false (by simp [hbit])
        have HB := Lib.hid (bits_off t j (by omega))
        clear hbit
        go_wp2
        exact ⟨⟨j + 1, by omega, by go_num, hb, hsz, l, HL, Lib.hid (by rw [HB.out]; exact HR.out), HK.out⟩, by simp [intOf]; omega⟩
    · obtain rfl : j = 32 := by omega
      have hback := run_convert_bytes_back (P := Tryd.prog) wr 34 9 5 ⟨w.heap.size, 0, none⟩ cap l Tryd.underlying34 Tryd.underlying5 Tryd.underlying9 (fun i hi => by
        have := (hc i (by rw [← HL.out]; exact hi)).1
        rw [List.getElem?_eq_getElem hi] at this
        rw [plain_add, Nat.zero_add]; exact this)
      rw [HL.out] at hback
      have htab := tab_below HT.out hb
      have s1 := sum_any ⟨l.toArray⟩ (by unfold maxLen; show l.length ≤ _; rw [HL.out]; omega) wr htab
      have S2 := Lib.hid (sum_any s (by unfold maxLen; omega) wr htab)
      have AL := Lib.hid (alive_any wr htab)
      have hm : moreV 0 l = 4294967295 ^^^ (run 4294967295 s.data.toList ^^^ shN (8 * s.size - k) t) := by
        unfold moreV
        have := HR.out
        rw [Nat.mod_eq_of_lt (show t < 2 ^ 32 from ht')] at this
        rw [← this]; rfl
      have he := burst_eq (run 4294967295 s.data.toList) t (8 * s.size - k) ht'
      have hE : (((moreV 0 l : Nat) : Int) == ((moreV 0 s.data.toList : Nat) : Int)) = ((t : Int) == 0) := by
        rw [show moreV 0 s.data.toList = 4294967295 ^^^ run 4294967295 s.data.toList from rfl, hm, Bool.eq_iff_iff]
        rw [decide_eq_decide] at he
        simp only [beq_iff_eq, Int.natCast_inj]
        rw [he]; omega
      have S1 := Lib.hid s1
      clear s1 hm hc htab he
      go_wp2_with fail
      refine S1.out.mono ?_; rintro e w' ⟨rfl, rfl⟩
      go_wp2_with fail
      refine S2.out.mono ?_; rintro e w' ⟨rfl, rfl⟩
      go_wp2_with fail
      refine AL.out.mono ?_; rintro e w' ⟨rfl, rfl⟩
      go_wp2
      go_ret
      exact ⟨rfl, hb⟩

theorem burst_walk (s : ByteArray) (hs : s.size ≤ maxLen) (at' t : Nat) (hat : at' < 4294967296) (ht' : t < 4294967296) (w : World) (ht : Tab w) :
    Calls Tryd.prog 8 #[.string s, .int .u32 at', .int .u32 t] w fun e w' => e = .returned (.bool true) ∧ Below w.heap.size w w' := by
  by_cases h : s.size < 5 ∨ 20000 < s.size
  · exact burst_out s hs at' t hat ht' h w ht
  · exact burst_in s at' t hat ht' (by omega) (by omega) w ht
end Go.Proofs.YtelnmkgilnkliaaDoor

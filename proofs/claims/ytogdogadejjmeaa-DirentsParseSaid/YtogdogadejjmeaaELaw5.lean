/- The walk of DirentsParse. -/
import Derived.Test.YtogdogadejjmeaaELaw1
import Derived.Test.YtogdogadejjmeaaERChange
import Derived.Deep.MidRow
namespace Go.Proofs.Ytogdogadejjmeaa
set_option linter.unusedVariables false
open Go.RowKit

theorem row_sameD {B n : Nat} {v : Value} {e : TypeId} {z : Nat} {xs : List Value} {w w' : World} (h : w.ownsRow B e z v n xs) (he : ∀ j, B ≤ j → w'.heap[j]? = w.heap[j]?) : w'.ownsRow B e z v n xs :=
  ⟨h.1, h.2.imp id fun ⟨g, cap, cur, a, b, c, r⟩ => ⟨g, cap, cur, a, b, (he g b).trans c, r⟩⟩
theorem den_size : (Try.prog.info? 25).map (·.size) = some 2 := by kernel_rfl
set_option maxRecDepth 100000 in
set_option maxHeartbeats 4000000 in
theorem eparse_walk (s : ByteArray) (hs : s.size ≤ maxLen) (nm : ByteArray) (hn : nm.size ≤ maxLen) (w : World) :
    Calls Try.prog 4 #[.string s, .string nm] w fun e w' => e = .returned (.bool true) ∧ Below w.heap.size w w' := by
  have AL := Lib.hid ealive_any
  have hs : s.size ≤ 9223372036854775807 := hs
  have hn : nm.size ≤ 9223372036854775807 := hn
  by_cases h1 : 2000 < s.size
  · have t1 : decide ((2000 : Int) < (s.size : Int)) = true := decide_eq_true (by omega)
    go_enter Try.func4, Try.ntmps4
    go_wp2
    go_ret
    exact ⟨rfl, Below.refl _ _⟩
  · have t1 : decide ((2000 : Int) < (s.size : Int)) = false := decide_eq_false (by omega)
    by_cases h2 : 2000 < nm.size
    · have t2 : decide ((2000 : Int) < (nm.size : Int)) = true := decide_eq_true (by omega)
      go_enter Try.func4, Try.ntmps4
      go_wp2
      go_ret
      exact ⟨rfl, Below.refl _ _⟩
    · have t2 : decide ((2000 : Int) < (nm.size : Int)) = false := decide_eq_false (by omega)
      have P1 := Lib.hid fun w => parse_any s (by omega) w
      have P2 := Lib.hid fun w => rparse_any s (by omega) w
      have F1 := Lib.hid fun w => find_any s (by omega) nm w
      have F2 := Lib.hid fun w => rfind_any s (by omega) nm w
      have O1 := Lib.hid fun w => room_any s (by omega) w
      have O2 := Lib.hid fun w => rroom_any s (by omega) w
      have SM : Hid (∀ v u w, DensIn v (listP s) w → DensIn u (listP s) w → Calls Try.prog 12 #[v, u] w fun e w' => e = .returned (.bool true) ∧ Below w.heap.size w w') := Lib.hid fun v u w h1 h2 => by
        have := esame_any (listP s) (listP s) v u w h1 h2
        rwa [decide_eq_true rfl] at this
      obtain ⟨-, f2, -⟩ := listOk_fit (listP_ok s)
      generalize errP s = E at *
      generalize findN s nm = N at *
      generalize (findD (listP s) nm).isSome = B at *
      generalize roomP s = RM at *
      generalize listP s = L at *
      have q1 : (E == E) = true := by simp
      have q2 : (N == N) = true := by simp
      have q3 : (B == B) = true := by simp
      have q4 : (RM == RM) = true := by simp
      go_enter Try.func4, Try.ntmps4
      go_wp2_with fail
      refine (P1.out _).mono ?_; rintro e w1 ⟨v1, rfl, hv1, b1⟩
      obtain ⟨ad, cap, rfl, c1, c2, c3⟩ := shape_of hv1
      have c2 : cap ≤ 9223372036854775807 := c2
      go_wp2_with fail
      refine (P2.out _).mono ?_; rintro e w2 ⟨v2, rfl, hu2, b2⟩
      obtain ⟨ad2, cap2, rfl, -⟩ := shape_of hu2
      have hv2 := row_kept hv1 b2
      have hb2 := bnext b1 b2
      have hz2 := b2.size
      have hz1 := b1.size
      clear hv1
      go_wp2_with fail
      refine (F1.out _).mono ?_; rintro e w3 ⟨rfl, b3⟩
      go_wp2_with fail
      refine (F2.out _).mono ?_; rintro e w4 ⟨rfl, b4⟩
      have b4 := bnext b3 b4
      have hv4 := row_kept hv2 b4
      have hu4 := row_kept hu2 b4
      have hb4 := bnext hb2 b4
      have hz4 := b4.size
      clear hv2 hu2 hb2 b3 b4 b1 b2
      go_wp2_with fail
      refine (SM.out _ _ _ (densAt_in hv4) (densAt_in hu4)).mono ?_; rintro e w5 ⟨rfl, b5⟩
      go_wp2_with fail
      refine (O1.out _).mono ?_; rintro e w6 ⟨rfl, b6⟩
      have b6 := bnext b5 b6
      go_wp2_with fail
      refine (O2.out _).mono ?_; rintro e w7 ⟨rfl, b7⟩
      have b7 := bnext b6 b7
      have hv7 := row_kept hv4 b7
      have hu7 := row_kept hu4 b7
      have hb7 := bnext hb4 b7
      have hz7 := b7.size
      have HG : Hid (0 < L.length → ∃ g, ad = some ⟨g, 0, none⟩ ∧ w.heap.size ≤ g ∧ g < w1.heap.size ∧ w7.there g 0 (L.length * 2)) := Lib.hid fun hp => by
        obtain ⟨g, e, h1, h2⟩ := c3 hp
        subst e
        refine ⟨g, rfl, h1, h2, fun j hj => ?_⟩
        have := (row_cells hv7).2 j hj
        rw [Nat.zero_add]
        exact ⟨by rw [this.1]; rfl, this.2⟩
      have HU := Lib.hid hu7
      clear hv4 hu4 hb4 b5 b6 b7 hv7 hu7 c3
      go_wp2
      go_loopw [13] (fun p wr => ∃ k : Nat, p = .int .i64 k ∧ k ≤ L.length ∧ Hid (∀ g, ad = some ⟨g, 0, none⟩ → 0 < L.length → wr.there g 0 (L.length * 2)) ∧ Hid (∀ j, w1.heap.size ≤ j → wr.heap[j]? = w7.heap[j]?) ∧ w7.heap.size ≤ wr.heap.size ∧ Below w.heap.size w wr) (fun p _ => L.length - (intOf p).toNat)
      case atStart => exact ⟨0, rfl, Nat.zero_le _, Lib.hid (fun g hg hp => by
        obtain ⟨g', e, _, _, h⟩ := HG.out hp
        rw [hg] at e; injection e with e; injection e with e _ _
        rw [e]; exact h), Lib.hid (fun j hj => rfl), Nat.le_refl _, hb7⟩
      case round =>
        clear hb7
        obtain ⟨k, rfl, hk, HT, HS, hsz, hb⟩ := hrel
        by_cases hlt : k < L.length
        · obtain ⟨g, rfl, hg1, hg2, -⟩ := HG.out (by omega)
          have ht := HT.out g rfl (by omega)
          have htk : wr.there g (k * 2) 2 := fun j hj => by
            have := ht (k * 2 + j) (by omega)
            rw [Nat.zero_add] at this; exact this
          have HTK := Lib.hid htk
          have HT2 : Hid (∀ g', (some ⟨g, 0, none⟩ : Option Addr) = some ⟨g', 0, none⟩ → 0 < L.length → (wr.setCells g (k * 2) [.string ⟨#[]⟩, .int .i64 (-9)]).there g' 0 (L.length * 2)) := Lib.hid fun g' e hp => World.there_setCells (HT.out g' e hp) _ _ _
          obtain ⟨_, _, _, z4, z5⟩ := setCells_keeps g [.string ⟨#[]⟩, .int .i64 (-9)] (k * 2) wr
          have HS2 : Hid (∀ j, w1.heap.size ≤ j → (wr.setCells g (k * 2) [.string ⟨#[]⟩, .int .i64 (-9)]).heap[j]? = w7.heap[j]?) := Lib.hid fun j hj => (z5 j (by omega)).trans (HS.out j hj)
          have hb2 : Below w.heap.size w (wr.setCells g (k * 2) [.string ⟨#[]⟩, .int .i64 (-9)]) := by
            have h := Zone.sets (Zone.of_below hb g (g + 1)) (Nat.le_refl g) (Nat.lt_succ_self g) (k * 2) [.string ⟨#[]⟩, .int .i64 (-9)]
            exact h.below (Nat.le_refl _) hg1
          have hsz2 : w7.heap.size ≤ (wr.setCells g (k * 2) [.string ⟨#[]⟩, .int .i64 (-9)]).heap.size := by omega
          obtain ⟨w9, hw9⟩ : ∃ w9, wr.setCells g (k * 2) [.string ⟨#[]⟩, .int .i64 (-9)] = w9 := ⟨_, rfl⟩
          rw [hw9] at HT2 HS2 hb2 hsz2
          have HW9 := Lib.hid hw9
          clear ht htk HT HS z4 z5 hw9
          go_wp2_with (refine wpList_store_mid rfl 25 _ _ rfl g (k * 2) #[.string ⟨#[]⟩, .int .i64 (-9)] rfl rfl HTK.out den_size (by simp [Value.oneCell']) ?_; rw [show (#[Value.string ⟨#[]⟩, Value.int .i64 (-9)] : Array Value).toList = [.string ⟨#[]⟩, .int .i64 (-9)] from rfl, HW9.out])
          go_wp2
          exact ⟨⟨k + 1, by go_num, by omega, HT2, HS2, hsz2, hb2⟩, by simp [intOf]; omega⟩
        · obtain rfl : k = L.length := by omega
          have HU2 := Lib.hid (row_sameD HU.out HS.out)
          clear HT HS HG
          go_wp2_with fail
          refine (P1.out _).mono ?_; rintro e w9 ⟨v9, rfl, hv9, b9⟩
          obtain ⟨ad9, cap9, rfl, -⟩ := shape_of hv9
          have hu9 := row_kept HU2.out b9
          have hb9 := bnext hb b9
          go_wp2_with fail
          refine (SM.out _ _ _ (densAt_in hv9) (densAt_in hu9)).mono ?_; rintro e w10 ⟨rfl, b10⟩
          have hb10 := bnext hb9 b10
          go_wp2_with fail
          refine (AL.out _).mono ?_; rintro e w11 ⟨rfl, b11⟩
          go_wp2
          go_ret
          exact ⟨rfl, bnext hb10 b11⟩
end Go.Proofs.Ytogdogadejjmeaa

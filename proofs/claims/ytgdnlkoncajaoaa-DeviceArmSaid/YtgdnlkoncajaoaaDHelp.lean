/- Block, what, SameInts, great. -/
import Derived.Test.YtgdnlkoncajaoaaDNew
import Derived.Test.YtgdnlkoncajaoaaDCrash
import Derived.Test.YtgdnlkoncajaoaaDActs
namespace Go.Proofs.Ytgdnlkoncajaoaa
set_option linter.unusedVariables false
open Go.RowKit

/-! ### Block -/
def rep (b : Nat) : ByteArray := ⟨Array.replicate 128 (UInt8.ofNat b)⟩
theorem rep_size (b : Nat) : (rep b).size = 128 := by simp [rep, ByteArray.size]
theorem rep_at {b : Nat} (hb : b < 256) {j : Nat} (hj : j < 128) : byteAt (rep b) j = (b : Int) := by
  unfold byteAt rep
  simp [hj]
  omega
def fillF (b i : Nat) : Nat → Value := fun j => if j < i then .int .u8 (b : Int) else .int .u8 0
set_option maxRecDepth 100000 in
set_option maxHeartbeats 1000000 in
theorem block_of (b : Nat) (hb : b < 256) (w : World) :
    Calls Try.prog 37 #[.int .u8 (b : Int)] w fun e w' => e = .returned (.string (rep b)) ∧ Below w.heap.size w w' := by
  have hm : (Instr.makeSlice 54 (.int .i64 128) (.int .i64 128)).run Try.prog w = .ok (.slice (some ⟨w.heap.size, 0, none⟩) 128 128) (w.alloc (.cells (madeCells #[.int .u8 0] 128) 5)) := u8s_made 128 (by omega) w
  have hc : CellsAt w.heap.size 128 (fillF b 0) (w.alloc (.cells (madeCells #[.int .u8 0] 128) 5)) := CellsAt.alloc_new _ _ _ _ _ fun j hj => madeCells_at _ _ _ hj
  have hb0 : Below w.heap.size w (w.alloc (.cells (madeCells #[.int .u8 0] 128) 5)) := balloc1 _ _
  generalize (w.alloc (.cells (madeCells #[.int .u8 0] 128) 5)) = w1 at *
  go_enter Try.func37, Try.ntmps37
  go_wp2
  go_loopw [4] (fun q wr => ∃ i : Nat, q = .int .i64 i ∧ i ≤ 128 ∧ CellsAt w.heap.size 128 (fillF b i) wr ∧ Below w.heap.size w wr) (fun q _ => 128 - (intOf q).toNat)
  case atStart => exact ⟨0, rfl, Nat.zero_le _, hc, hb0⟩
  case round =>
    clear hc hb0
    obtain ⟨i, rfl, hi, hc, hbr⟩ := hrel
    by_cases hlt : i < 128
    · obtain ⟨q1, q2⟩ := hc.2 i hlt
      have HC : Hid (CellsAt w.heap.size 128 (fillF b (i + 1)) (wr.setCell ⟨w.heap.size, i, none⟩ (.int .u8 (b : Int)))) := Lib.hid ((hc.set hlt (.int .u8 (b : Int))).congr fun j hj => by
        unfold fillF
        by_cases e : j = i
        · subst e; rw [upd_same, if_pos (Nat.lt_succ_self j)]
        · rw [upd_other _ e]
          by_cases e2 : j < i
          · rw [if_pos e2, if_pos (by omega)]
          · rw [if_neg e2, if_neg (by omega)])
      clear hc
      generalize fillF b i i = u at *
      go_wp2
      exact ⟨⟨i + 1, by go_num, by omega, HC, hbr.setCell (Nat.le_refl _) _⟩, by simp [intOf]; omega⟩
    · obtain rfl : i = 128 := by omega
      have hr := u8_string (w := wr) ⟨w.heap.size, 0, none⟩ 128 (rep b) 128 (rep_size b) (fun j hj => by
        rw [add_at, Nat.zero_add, (hc.2 j hj).1, rep_at hb hj]
        unfold fillF; rw [if_pos hj])
      clear hc hm
      go_wp2
      go_ret
      exact ⟨rfl, hbr⟩

/-! ### what -/
def whatT (x : ActD) : ByteArray := if x.data.size = 0 then rep x.fill else x.data
abbrev actV (x : ActD) : Value := .agg #[.int .u8 (x.kind : Int), .int .i64 x.b, .int .i64 x.n, .int .u8 (x.fill : Int), .string x.data, x.kv]
theorem what_any (x : ActD) (hf : x.fill < 256) (w : World) :
    Calls Try.prog 15 #[actV x] w fun e w' => e = .returned (.string (whatT x)) ∧ Below w.heap.size w w' := by
  obtain ⟨kind, b, n, fill, data, keep, kv⟩ := x
  have hf : fill < 256 := hf
  have e : whatT ⟨kind, b, n, fill, data, keep, kv⟩ = if data.size = 0 then rep fill else data := rfl
  rw [e]
  clear e
  by_cases h0 : data.size = 0
  · rw [if_pos h0]
    obtain rfl : data = ⟨#[]⟩ := by
      have : data.data.size = 0 := h0
      cases data; simp at this; subst this; rfl
    have B := Lib.hid (block_of fill hf)
    go_enter Try.func15, Try.ntmps15
    go_wp2_with fail
    refine (B.out _).mono ?_; rintro e w1 ⟨rfl, hb⟩
    have hb := below_boxed hb
    go_wp2
    go_ret
    exact ⟨rfl, hb⟩
  · rw [if_neg h0]
    have t1 : (data.toList == []) = false := ne_empty h0
    go_enter Try.func15, Try.ntmps15
    go_wp2
    go_ret
    exact ⟨rfl, balloc1 _ _⟩

/-! ### SameInts -/
/-- v is a slice of the numbers, wherever they lie -/
abbrev NatsIn (v : Value) (L : List Nat) (w : World) : Prop := RowIn 1 v L.length (L.map natV) w
theorem natsAt_in {B : Nat} {v : Value} {L : List Nat} {w : World} (h : NatsAt B v L w) : NatsIn v L w := by
  rcases h.2 with ⟨rfl, h0⟩ | ⟨g, cap, cur, rfl, hbg, hg, hnc, hcm, hcs, htake⟩
  · have : L = [] := List.length_eq_zero_iff.1 h0
    subst this
    exact RowIn.nil 1 w
  · refine ⟨by simp, some ⟨g, 0, none⟩, cap, rfl, hnc, hcm, fun _ => ⟨g, 0, rfl, lt_of_block hg, fun k u hk => ?_⟩, fun h => by cases h⟩
    have hl := (List.getElem?_eq_some_iff.1 hk).1
    rw [Nat.zero_add, h.cellAt k (by rw [List.length_map] at hl; omega)]; exact hk
set_option maxHeartbeats 1000000 in
theorem same_yes (va vb : Value) (L : List Nat) (hL : L.length ≤ 4000000) (w : World) (ha : NatsIn va L w) (hb : NatsIn vb L w) :
    Calls Try.prog 24 #[va, vb] w fun e w' => e = .returned (.bool true) ∧ Below w.heap.size w w' := by
  obtain ⟨ada, capa, rfl, a1, a2, hada, -⟩ := ha.shape
  obtain ⟨adb, capb, rfl, b1, b2, hadb, -⟩ := hb.shape
  have HA := Lib.hid hada
  have HB := Lib.hid hadb
  clear ha hb hada hadb
  go_enter Try.func24, Try.ntmps24
  go_wp2
  go_loopw [5] (fun q wr => ∃ i : Nat, q = .int .i64 i ∧ i ≤ L.length ∧ Below w.heap.size w wr) (fun q _ => L.length - (intOf q).toNat)
  case atStart => exact ⟨0, rfl, Nat.zero_le _, Below.refl _ _⟩
  case round =>
    obtain ⟨i, rfl, hi, hbr⟩ := hrel
    by_cases hlt : i < L.length
    · obtain ⟨ga, oa, rfl, hga, hca⟩ := HA.out (by rw [List.length_map]; omega)
      obtain ⟨gb, ob, rfl, hgb, hcb⟩ := HB.out (by rw [List.length_map]; omega)
      have e1 : (L.map natV)[i]? = some (.int .i64 (L[i] : Int)) := by rw [List.getElem?_map, List.getElem?_eq_getElem hlt]; rfl
      have q1 := (hbr.cell (p := ⟨ga, oa + i, none⟩) hga).trans (hca i _ e1)
      have q2 := (hbr.cell (p := ⟨gb, ob + i, none⟩) hgb).trans (hcb i _ e1)
      generalize L[i] = z at *
      have d1 : ∀ q, (wr.drewN q).cell? ⟨ga, oa + i, none⟩ = some (.int .i64 (z : Int)) := fun _ => q1
      have d2 : ∀ q, (wr.drewN q).cell? ⟨gb, ob + i, none⟩ = some (.int .i64 (z : Int)) := fun _ => q2
      clear HA HB hca hcb e1 q1 q2
      go_wp2
      go_quiet (fail)
      go_wp2
      exact ⟨⟨i + 1, by go_num, by omega, below_drewN hbr _⟩, by simp [intOf]; omega⟩
    · obtain rfl : i = L.length := by omega
      clear HA HB
      go_wp2
      go_ret
      exact ⟨rfl, hbr⟩

/-! ### great -/
set_option maxHeartbeats 1000000 in
theorem great_any (v : Value) (n : Nat) (A : Nat → ActD) (w : World) (h : ActsIn v n A w) :
    Calls Try.prog 10 #[v] w fun e w' => ∃ b, e = .returned (.bool b) ∧ (b = false → n ≤ 120) ∧ Below w.heap.size w w' := by
  obtain ⟨ad, cap, rfl, h1, h2, h3⟩ := h.shape
  have H3 := Lib.hid h3
  have HK := Lib.hid fun i hi => (h.2 i hi).keep
  clear h h3
  go_enter Try.func10, Try.ntmps10
  go_wp2
  go_loopw [3, 4] (fun z q wr => ∃ (i : Nat) (z' : Int), z = .int .i64 z' ∧ q = .int .i64 i ∧ i ≤ n ∧ Below w.heap.size w wr) (fun _ q _ => n - (intOf q).toNat)
  case atStart => exact ⟨0, 0, rfl, rfl, Nat.zero_le _, Below.refl _ _⟩
  case round =>
    obtain ⟨i, z, rfl, rfl, hi, hbr⟩ := hrel
    by_cases hlt : i < n
    · obtain ⟨g, o, rfl, hg, hc⟩ := H3.out (by omega)
      obtain ⟨_, _, _, _, c4, c5⟩ := hc i hlt
      obtain ⟨adk, capk, hkv, _, _, _⟩ := (HK.out i hlt).shape
      rw [hkv] at c5
      have q4 : ∀ q, (wr.drewN q).cell? ⟨g, o + i * 6 + 4, none⟩ = some (.string (A i).data) := fun _ => (hbr.cell (p := ⟨g, o + i * 6 + 4, none⟩) hg).trans c4
      have q5 : ∀ q, (wr.drewN q).cell? ⟨g, o + i * 6 + 5, none⟩ = some (.slice adk (A i).keep.length capk) := fun _ => (hbr.cell (p := ⟨g, o + i * 6 + 5, none⟩) hg).trans c5
      generalize (A i).data = dt at *
      generalize (A i).keep.length = kl at *
      clear H3 HK hc c4 c5 hkv
      go_wp2
      go_quiet (fail)
      generalize wrap64 (wrap64 (wrap64 (z + 1) + wrap64 ((dt.size : Int) / 100)) + (kl : Int)) = z' at *
      by_cases hz : 2000 < z'
      · go_wp2
        go_ret
        exact ⟨true, rfl, (fun h => by cases h), below_drewN hbr _⟩
      · go_wp2
        exact ⟨⟨i + 1, z', rfl, by go_num, by omega, below_drewN hbr _⟩, by simp [intOf]; omega⟩
    · obtain rfl : i = n := by omega
      clear H3 HK
      by_cases h120 : i ≤ 120
      · go_wp2
        go_ret
        exact ⟨_, rfl, fun _ => h120, hbr⟩
      · go_wp2
        go_ret
        exact ⟨_, rfl, fun hh => by simp at hh; omega, hbr⟩
end Go.Proofs.Ytgdnlkoncajaoaa

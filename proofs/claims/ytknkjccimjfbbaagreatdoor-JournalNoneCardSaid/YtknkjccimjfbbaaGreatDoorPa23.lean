import Derived.Test.YtknkjccimjfbbaaGreatDoorPa22
import Derived.Test.YtknkjccimjfbbaaGreatDoorPa04
set_option linter.unusedVariables false
set_option linter.unusedSimpArgs false
set_option linter.constructorNameAsVariable false
/- Rows of numbers that a call makes, one appended behind the other; lists of those that are marked. -/
namespace Go.Proofs.YtknkjccimjfbbaaGreatDoor
set_option linter.unusedVariables false
open Go.RowKit

theorem int_info : (Tryz.prog.info? 3).map (fun i => (i.zero, i.size, i.bytes)) = some (some (.int .i64 0), 1, 8) := by kernel_rfl
/-- v holds the numbers, in a row of the call's own, at B or behind -/
def natV (k : Nat) : Value := .int .i64 (k : Int)
abbrev NatsAt (B : Nat) (v : Value) (L : List Nat) (w : World) : Prop := w.ownsRow B 3 1 v L.length (L.map natV)
theorem new_one (w : World) (u : Value) (t : TypeId) : ∀ j v, [u][j]? = some v → (w.alloc (.cells #[u] t)).cell? ((⟨w.heap.size, 0, none⟩ : Addr).add j) = some v := fun j v hj => by
  rw [add_at, Nat.zero_add, World.cell?_alloc_mark]
  simpa using hj
theorem wpList_app1 {ops : Array Oper} {rest : List Oper} {o : Oper} {a : Act} {Q : Exit → Act → World → Prop} {w : World} (hgd : o.guard = none) (s x : Operand)
    (ho : o.op = .call { callee := .builtin .append, args := #[s, x], argTypes := #[23, 23] })
    (base : Nat) (v : Value) (L : List Nat) (k : Nat) (hs : a.eval s = v) (hown : NatsAt base v L w) (W : World) (hW : w = W.alloc (.cells #[.int .i64 (k : Int)] 3)) (hx : a.eval x = .slice (some ⟨W.heap.size, 0, none⟩) 1 1)
    (hlen : L.length ≤ 4000000) (hbase : base ≤ w.heap.size)
    (h : ∀ v' w', NatsAt base v' (L ++ [k]) w' → Below base w w' → wpList Tryz.prog ops Q rest (a.put o.dst v') w') : wpList Tryz.prog ops Q (o :: rest) a w := by
  obtain ⟨i0, hi, hz0, hz1, hz2⟩ := info_parts int_info
  subst hW
  refine wpList_append_own (w := W.alloc (.cells #[.int .i64 (k : Int)] 3)) hgd s x 23 ho base 3 i0 (.int .i64 0) 1 8 Tryz.underlying23 hi hz0 hz1 hz2 rfl (by decide) v _ _ hs hown ⟨W.heap.size, 0, none⟩ 1 1 [.int .i64 (k : Int)] hx rfl (new_one W _ _) (fun u hu => by simp at hu; subst hu; rfl) (by unfold maxLen; omega) (by omega) hbase ?_
  intro v' w' h1 h2 _
  refine h v' w' ?_ (below_of_row hown h2 hbase)
  show w'.ownsRow _ _ _ _ (L ++ [k]).length ((L ++ [k]).map _)
  rw [List.length_append, List.map_append]; exact h1
theorem pendL_len (p : Nat → Bool) (n : Nat) : (pendL p n).length ≤ n := by rw [pendL_length]; exact cntT_le p n
theorem pendL_yes {p : Nat → Bool} {n : Nat} (h : p n = true) : pendL p (n + 1) = pendL p n ++ [n] := by show (if p n then _ else _) = _; rw [if_pos h]
theorem pendL_no {p : Nat → Bool} {n : Nat} (h : p n = false) : pendL p (n + 1) = pendL p n := by show (if p n then _ else _) = _; rw [if_neg (by rw [h]; exact Bool.false_ne_true)]
end Go.Proofs.YtknkjccimjfbbaaGreatDoor

/- Block, SameInts. -/
namespace Go.Proofs.YtknkjccimjfbbaaGreatDoor
set_option linter.unusedVariables false
open Go.RowKit

/-! ### Block -/
def rep (b : Nat) : ByteArray := ⟨Array.replicate 128 (UInt8.ofNat b)⟩
theorem rep_size (b : Nat) : (rep b).size = 128 := by simp [rep, ByteArray.size]
theorem rep_at {b : Nat} (hb : b < 256) {j : Nat} (hj : j < 128) : byteAt (rep b) j = (b : Int) := by
  unfold byteAt rep
  simp [hj]
  omega
def fillF (b i : Nat) : Nat → Value := fun j => if j < i then .int .u8 (b : Int) else .int .u8 0
set_option maxRecDepth 100000 in
set_option maxHeartbeats 1000000 in
theorem block_of (b : Nat) (hb : b < 256) (w : World) :
    Calls Tryz.prog 42 #[.int .u8 (b : Int)] w fun e w' => e = .returned (.string (rep b)) ∧ Below w.heap.size w w' := by
  have hm : (Instr.makeSlice 41 (.int .i64 128) (.int .i64 128)).run Tryz.prog w = .ok (.slice (some ⟨w.heap.size, 0, none⟩) 128 128) (w.alloc (.cells (madeCells #[.int .u8 0] 128) 5)) := u8s_made 128 (by omega) w
  have hc : CellsAt w.heap.size 128 (fillF b 0) (w.alloc (.cells (madeCells #[.int .u8 0] 128) 5)) := CellsAt.alloc_new _ _ _ _ _ fun j hj => madeCells_at _ _ _ hj
  have hb0 : Below w.heap.size w (w.alloc (.cells (madeCells #[.int .u8 0] 128) 5)) := balloc1 _ _
  generalize (w.alloc (.cells (madeCells #[.int .u8 0] 128) 5)) = w1 at *
  go_enter Tryz.func42, Tryz.ntmps42
  go_wp2
  go_loopw [4] (fun q wr => ∃ i : Nat, q = .int .i64 i ∧ i ≤ 128 ∧ CellsAt w.heap.size 128 (fillF b i) wr ∧ Below w.heap.size w wr) (fun q _ => 128 - (intOf q).toNat)
  case atStart => exact ⟨0, rfl, Nat.zero_le _, hc, hb0⟩
  case round =>
    clear hc hb0
    obtain ⟨i, rfl, hi, hc, hbr⟩ := hrel
    by_cases hlt : i < 128
    · obtain ⟨q1, q2⟩ := hc.2 i hlt
      have HC : Hid (CellsAt w.heap.size 128 (fillF b (i + 1)) (wr.setCell ⟨w.heap.size, i, none⟩ (.int .u8 (b : Int)))) := Lib.hid ((hc.set hlt (.int .u8 (b : Int))).congr fun j hj => by
        unfold fillF
        by_cases e : j = i
        · subst e; rw [upd_same, if_pos (Nat.lt_succ_self j)]
        · rw [upd_other _ e]
          by_cases e2 : j < i
          · rw [if_pos e2, if_pos (by omega)]
          · rw [if_neg e2, if_neg (by omega)])
      clear hc
      generalize fillF b i i = u at *
      go_wp2
      exact ⟨⟨i + 1, by go_num, by omega, HC, hbr.setCell (Nat.le_refl _) _⟩, by simp [intOf]; omega⟩
    · obtain rfl : i = 128 := by omega
      have hr := u8_string (w := wr) ⟨w.heap.size, 0, none⟩ 128 (rep b) 128 (rep_size b) (fun j hj => by
        rw [add_at, Nat.zero_add, (hc.2 j hj).1, rep_at hb hj]
        unfold fillF; rw [if_pos hj])
      clear hc hm
      go_wp2
      go_ret
      exact ⟨rfl, hbr⟩

/-! ### SameInts -/
/-- v is a slice of the numbers, wherever they lie -/
abbrev NatsIn (v : Value) (L : List Nat) (w : World) : Prop := RowIn 1 v L.length (L.map natV) w
theorem natsAt_in {B : Nat} {v : Value} {L : List Nat} {w : World} (h : NatsAt B v L w) : NatsIn v L w := by
  rcases h.2 with ⟨rfl, h0⟩ | ⟨g, cap, cur, rfl, hbg, hg, hnc, hcm, hcs, htake⟩
  · have : L = [] := List.length_eq_zero_iff.1 h0
    subst this
    exact RowIn.nil 1 w
  · refine ⟨by simp, some ⟨g, 0, none⟩, cap, rfl, hnc, hcm, fun _ => ⟨g, 0, rfl, lt_of_block hg, fun k u hk => ?_⟩, fun h => by cases h⟩
    have hl := (List.getElem?_eq_some_iff.1 hk).1
    rw [Nat.zero_add, h.cellAt k (by rw [List.length_map] at hl; omega)]; exact hk
set_option maxHeartbeats 1000000 in
theorem same_yes (va vb : Value) (L : List Nat) (hL : L.length ≤ 4000000) (w : World) (ha : NatsIn va L w) (hb : NatsIn vb L w) :
    Calls Tryz.prog 47 #[va, vb] w fun e w' => e = .returned (.bool true) ∧ Below w.heap.size w w' := by
  obtain ⟨ada, capa, rfl, a1, a2, hada, -⟩ := ha.shape
  obtain ⟨adb, capb, rfl, b1, b2, hadb, -⟩ := hb.shape
  have HA := Lib.hid hada
  have HB := Lib.hid hadb
  clear ha hb hada hadb
  go_enter Tryz.func47, Tryz.ntmps47
  go_wp2
  go_loopw [5] (fun q wr => ∃ i : Nat, q = .int .i64 i ∧ i ≤ L.length ∧ Below w.heap.size w wr) (fun q _ => L.length - (intOf q).toNat)
  case atStart => exact ⟨0, rfl, Nat.zero_le _, Below.refl _ _⟩
  case round =>
    obtain ⟨i, rfl, hi, hbr⟩ := hrel
    by_cases hlt : i < L.length
    · obtain ⟨ga, oa, rfl, hga, hca⟩ := HA.out (by rw [List.length_map]; omega)
      obtain ⟨gb, ob, rfl, hgb, hcb⟩ := HB.out (by rw [List.length_map]; omega)
      have e1 : (L.map natV)[i]? = some (.int .i64 (L[i] : Int)) := by rw [List.getElem?_map, List.getElem?_eq_getElem hlt]; rfl
      have q1 := (hbr.cell (p := ⟨ga, oa + i, none⟩) hga).trans (hca i _ e1)
      have q2 := (hbr.cell (p := ⟨gb, ob + i, none⟩) hgb).trans (hcb i _ e1)
      generalize L[i] = z at *
      have d1 : ∀ q, (wr.drewN q).cell? ⟨ga, oa + i, none⟩ = some (.int .i64 (z : Int)) := fun _ => q1
      have d2 : ∀ q, (wr.drewN q).cell? ⟨gb, ob + i, none⟩ = some (.int .i64 (z : Int)) := fun _ => q2
      clear HA HB hca hcb e1 q1 q2
      go_wp2
      go_quiet (fail)
      go_wp2
      exact ⟨⟨i + 1, by go_num, by omega, below_drewN hbr _⟩, by simp [intOf]; omega⟩
    · obtain rfl : i = L.length := by omega
      clear HA HB
      go_wp2
      go_ret
      exact ⟨rfl, hbr⟩

end Go.Proofs.YtknkjccimjfbbaaGreatDoor

/- fill, what, great, in, without. -/
import Derived.Test.YtehjobjjlldckaaGreatCNew
import Derived.Test.YtehjobjjlldckaaGreatRep
import Derived.Test.YtehjobjjlldckaaGreatCActs
namespace Go.Proofs.YtehjobjjlldckaaGreat
set_option linter.unusedVariables false
open Go.RowKit

theorem fill_of (b : Nat) (hb : b < 256) (w : World) : Calls Tryz.prog 32 #[.int .u8 (b : Int)] w fun e w' => e = .returned (.string (rep b)) ∧ Below w.heap.size w w' := by
  have B := Lib.hid (block_of b hb w)
  go_enter Tryz.func32, Tryz.ntmps32
  go_wp2_with fail
  refine B.out.mono ?_; rintro e w1 ⟨rfl, b1⟩
  go_wp2
  go_ret
  exact ⟨rfl, b1⟩
def whatC (x : ActC) : ByteArray := if x.data.size = 0 then rep x.fill else x.data
abbrev actV (x : ActC) : Value := .agg #[.int .u8 (x.kind : Int), .int .i64 x.b, .int .i64 x.n, .int .u8 (x.fill : Int), .bool x.pin, .string x.data]
theorem what_any (x : ActC) (hf : x.fill < 256) (w : World) :
    Calls Tryz.prog 34 #[actV x] w fun e w' => e = .returned (.string (whatC x)) ∧ Below w.heap.size w w' := by
  obtain ⟨kind, b, n, fill, pin, data⟩ := x
  have hf : fill < 256 := hf
  have e : whatC ⟨kind, b, n, fill, pin, data⟩ = if data.size = 0 then rep fill else data := rfl
  rw [e]
  clear e
  by_cases h0 : data.size = 0
  · rw [if_pos h0]
    obtain rfl : data = ⟨#[]⟩ := by
      have : data.data.size = 0 := h0
      cases data; simp at this; subst this; rfl
    have B := Lib.hid (fill_of fill hf)
    go_enter Tryz.func34, Tryz.ntmps34
    go_wp2_with fail
    refine (B.out _).mono ?_; rintro e w1 ⟨rfl, hb⟩
    have hb := below_boxed hb
    go_wp2
    go_ret
    exact ⟨rfl, hb⟩
  · rw [if_neg h0]
    have t1 : (data.toList == []) = false := ne_empty h0
    go_enter Tryz.func34, Tryz.ntmps34
    go_wp2
    go_ret
    exact ⟨rfl, balloc1 _ _⟩
set_option maxHeartbeats 1000000 in
theorem great_any (v : Value) (n : Nat) (A : Nat → ActC) (w : World) (h : ActsIn v n A w) :
    Calls Tryz.prog 4 #[v] w fun e w' => ∃ b, e = .returned (.bool b) ∧ (b = false → n ≤ 150) ∧ Below w.heap.size w w' := by
  obtain ⟨ad, cap, rfl, h1, h2, h3⟩ := h.shape
  have H3 := Lib.hid h3
  clear h h3
  go_enter Tryz.func4, Tryz.ntmps4
  go_wp2
  go_loopw [3, 4] (fun z q wr => ∃ (i : Nat) (z' : Int), z = .int .i64 z' ∧ q = .int .i64 i ∧ i ≤ n ∧ Below w.heap.size w wr) (fun _ q _ => n - (intOf q).toNat)
  case atStart => exact ⟨0, 0, rfl, rfl, Nat.zero_le _, Below.refl _ _⟩
  case round =>
    obtain ⟨i, z, rfl, rfl, hi, hbr⟩ := hrel
    by_cases hlt : i < n
    · obtain ⟨g, o, rfl, hg, hc⟩ := H3.out (by omega)
      obtain ⟨_, _, _, _, _, c5⟩ := hc i hlt
      have q5 : wr.cell? ⟨g, o + i * 6 + 5, none⟩ = some (.string (A i).data) := (hbr.cell (p := ⟨g, o + i * 6 + 5, none⟩) hg).trans c5
      generalize (A i).data = dt at *
      clear H3 hc c5
      by_cases hz : 2000 < wrap64 (wrap64 (z + 1) + wrap64 ((dt.size : Int) / 100))
      · go_wp2
        go_ret
        exact ⟨true, rfl, (fun h => by cases h), hbr⟩
      · go_wp2
        exact ⟨⟨i + 1, _, rfl, by go_num, by omega, hbr⟩, by simp [intOf]; omega⟩
    · obtain rfl : i = n := by omega
      clear H3
      by_cases h150 : i ≤ 150
      · go_wp2
        go_ret
        exact ⟨_, rfl, fun _ => h150, hbr⟩
      · go_wp2
        go_ret
        exact ⟨_, rfl, fun hh => by simp at hh; omega, hbr⟩
/-- is n among them? -/
theorem in_any (v : Value) (L : List Nat) (k : Int) (hL : L.length ≤ 4000000) (w : World) (h : NatsIn v L w) :
    Calls Tryz.prog 20 #[v, .int .i64 k] w fun e w' => e = .returned (.bool (L.any fun x => (x : Int) == k)) ∧ w = w' := by
  obtain ⟨ad, cap, rfl, a1, a2, had, -⟩ := h.shape
  have HA := Lib.hid had
  clear h had
  go_enter Tryz.func20, Tryz.ntmps20
  go_wp2
  go_loopw [5] (fun q wr => ∃ i : Nat, q = .int .i64 i ∧ i ≤ L.length ∧ Hid ((L.any fun x => (x : Int) == k) = (L.drop i).any fun x => (x : Int) == k) ∧ wr = w) (fun q _ => L.length - (intOf q).toNat)
  case atStart => exact ⟨0, rfl, Nat.zero_le _, Lib.hid (by rw [List.drop_zero]), rfl⟩
  case round =>
    obtain ⟨i, rfl, hi, HH, rfl⟩ := hrel
    by_cases hlt : i < L.length
    · obtain ⟨ga, oa, rfl, hga, hca⟩ := HA.out (by rw [List.length_map]; omega)
      have e1 : (L.map natV)[i]? = some (.int .i64 (L[i] : Int)) := by rw [List.getElem?_map, List.getElem?_eq_getElem hlt]; rfl
      have q1 := hca i _ e1
      have hd : L.drop i = L[i] :: L.drop (i + 1) := List.drop_eq_getElem_cons hlt
      by_cases he : (L[i] : Int) = k
      · have HT : Hid ((L.any fun x => (x : Int) == k) = true) := Lib.hid (by rw [HH.out, hd, List.any_cons, beq_iff_eq.2 he]; rfl)
        rw [he] at q1
        clear HH hd he hca e1 HA
        go_wp2
        go_ret
        exact ⟨by rw [HT.out]; rfl, rfl⟩
      · have HN : Hid ((L.any fun x => (x : Int) == k) = (L.drop (i + 1)).any fun x => (x : Int) == k) := Lib.hid (by rw [HH.out, hd, List.any_cons, beq_eq_false_iff_ne.2 he]; rfl)
        have t1 : ((L[i] : Int) == k) = false := beq_eq_false_iff_ne.2 he
        clear HH hd hca e1 HA
        generalize L[i] = z at *
        go_wp2
        exact ⟨⟨i + 1, by go_num, by omega, HN, by first | trivial | rfl⟩, by simp [intOf]; omega⟩
    · obtain rfl : i = L.length := by omega
      have HT : Hid ((L.any fun x => (x : Int) == k) = false) := Lib.hid (by rw [HH.out, List.drop_length]; rfl)
      clear HH HA
      go_wp2
      go_ret
      exact ⟨by rw [HT.out]; rfl, rfl⟩
end Go.Proofs.YtehjobjjlldckaaGreat

import Derived.Test.YtanghmogeiiooaaGreatDoorProg
import Derived.Shelf.Strings.Repeat
import Derived.Test.YtanghmogeiiooaaGreatDoorPa01
import Derived.Test.YtanghmogeiiooaaGreatDoorPa05
import Derived.Test.YtanghmogeiiooaaGreatDoorPa10
set_option linter.unusedVariables false
set_option linter.unusedSimpArgs false
set_option linter.constructorNameAsVariable false
/- The library's contracts, laid at this program: tables of numbers, and the facts that they want. -/
namespace Go.Proofs
open Go.Shelf
def Tryz.repeatS_ren : Go.Shelf.Ren := ⟨fun | 105 => 57 | 212 => 83 | 99 => 84 | 165 => 85 | 166 => 86 | 170 => 87 | 169 => 88 | 263 => 105 | 264 => 106 | 206 => 107 | 240 => 108 | 241 => 109 | 276 => 119 | 277 => 120 | n => n, fun | 9 => 9 | 3 => 3 | 4 => 4 | 20 => 20 | 0 => 0 | 46 => 152 | 109 => 153 | 5 => 5 | 72 => 158 | 76 => 161 | 51 => 120 | 146 => 179 | 53 => 70 | 148 => 181 | 70 => 156 | 37 => 43 | 75 => 160 | 127 => 183 | 164 => 193 | 80 => 69 | n => n, fun | n => n⟩
theorem Tryz.repeatS : Go.Proofs.Lays.n105 Tryz.prog Tryz.repeatS_ren := {
  mixed := by kernel_rfl
  f99 := Tryz.func84.trans (congrArg some (by kernel_rfl))
  f105 := Tryz.func57.trans (congrArg some (by kernel_rfl))
  f165 := Tryz.func85.trans (congrArg some (by kernel_rfl))
  f166 := Tryz.func86.trans (congrArg some (by kernel_rfl))
  f169 := Tryz.func88.trans (congrArg some (by kernel_rfl))
  f170 := Tryz.func87.trans (congrArg some (by kernel_rfl))
  f206 := Tryz.func107.trans (congrArg some (by kernel_rfl))
  f212 := Tryz.func83.trans (congrArg some (by kernel_rfl))
  f240 := Tryz.func108.trans (congrArg some (by kernel_rfl))
  f241 := Tryz.func109.trans (congrArg some (by kernel_rfl))
  f263 := Tryz.func105.trans (congrArg some (by kernel_rfl))
  f264 := Tryz.func106.trans (congrArg some (by kernel_rfl))
  f276 := Tryz.func119.trans (congrArg some (by kernel_rfl))
  f277 := Tryz.func120.trans (congrArg some (by kernel_rfl))
  t0 := Tryz.underlying0
  a0 := Tryz.isAgg0
  z0 := Tryz.sizeOf0
  v0 := Tryz.zeroValue0
  t3 := Tryz.underlying3
  a3 := Tryz.isAgg3
  z3 := Tryz.sizeOf3
  v3 := Tryz.zeroValue3
  t4 := Tryz.underlying4
  a4 := Tryz.isAgg4
  z4 := Tryz.sizeOf4
  v4 := Tryz.zeroValue4
  t5 := Tryz.underlying5
  a5 := Tryz.isAgg5
  z5 := Tryz.sizeOf5
  v5 := Tryz.zeroValue5
  t9 := Tryz.underlying9
  a9 := Tryz.isAgg9
  z9 := Tryz.sizeOf9
  v9 := Tryz.zeroValue9
  t20 := Tryz.underlying20
  a20 := Tryz.isAgg20
  z20 := Tryz.sizeOf20
  v20 := Tryz.zeroValue20
  t37 := Tryz.underlying43
  a37 := Tryz.isAgg43
  z37 := Tryz.sizeOf43
  v37 := Tryz.zeroValue43
  t46 := Tryz.underlying152
  a46 := Tryz.isAgg152
  z46 := Tryz.sizeOf152
  v46 := Tryz.zeroValue152
  t51 := Tryz.underlying120
  a51 := Tryz.isAgg120
  z51 := Tryz.sizeOf120
  v51 := Tryz.zeroValue120
  t53 := Tryz.underlying70
  a53 := Tryz.isAgg70
  z53 := Tryz.sizeOf70
  v53 := Tryz.zeroValue70
  t70 := Tryz.underlying156
  a70 := Tryz.isAgg156
  z70 := Tryz.sizeOf156
  v70 := Tryz.zeroValue156
  t72 := Tryz.underlying158
  a72 := Tryz.isAgg158
  z72 := Tryz.sizeOf158
  v72 := Tryz.zeroValue158
  t75 := Tryz.underlying160
  a75 := Tryz.isAgg160
  z75 := Tryz.sizeOf160
  v75 := Tryz.zeroValue160
  t76 := Tryz.underlying161
  a76 := Tryz.isAgg161
  z76 := Tryz.sizeOf161
  v76 := Tryz.zeroValue161
  t109 := Tryz.underlying153
  a109 := Tryz.isAgg153
  z109 := Tryz.sizeOf153
  v109 := Tryz.zeroValue153
  t127 := Tryz.underlying183
  a127 := Tryz.isAgg183
  z127 := Tryz.sizeOf183
  v127 := Tryz.zeroValue183
  t146 := Tryz.underlying179
  a146 := Tryz.isAgg179
  z146 := Tryz.sizeOf179
  v146 := Tryz.zeroValue179
  t148 := Tryz.underlying181
  a148 := Tryz.isAgg181
  z148 := Tryz.sizeOf181
  v148 := Tryz.zeroValue181
  t164 := Tryz.underlying193
  a164 := Tryz.isAgg193
  z164 := Tryz.sizeOf193
  v164 := Tryz.zeroValue193 }
end Go.Proofs

/- Repeat of a zero byte; a number put into zero bytes. -/
namespace Go.Proofs
open Go.Shelf
theorem Tryz.repeatX : Builder.Extra Tryz.prog Tryz.repeatS_ren where
  sizeBuilder := by kernel_rfl
  liesBuilder := by kernel_rfl
  t5 := Tryz.repeatS.t5
  a5 := Tryz.repeatS.a5
  z5 := Tryz.repeatS.z5
  v5 := Tryz.repeatS.v5
  infoByte := by kernel_rfl
  cellsByte := by kernel_rfl
  sizeByte := by kernel_rfl
  neB5 := by decide
end Go.Proofs
namespace Go.Proofs.YtanghmogeiiooaaGreatDoor
set_option linter.unusedVariables false
open Go.RowKit

def zeroL (n : Nat) : List UInt8 := List.replicate n 0
theorem zeroL_length (n : Nat) : (zeroL n).length = n := by unfold zeroL; simp
theorem repeatL_zero (n : Nat) : Lib.repeatL [0] n = zeroL n := by
  have := Lib.repeatL_replicate (0 : UInt8) 1 n
  rw [Nat.mul_one] at this
  exact this
theorem repeat_any (n : Nat) (hn : n ≤ 4096) (w : World) :
    Calls Tryz.prog 57 #[.string ⟨#[0]⟩, .int .i64 (n : Int)] w fun e w' => e = .returned (.string (bs (zeroL n))) ∧ Below w.heap.size w w' := by
  have h := Any.strings_Repeat Tryz.repeatS Tryz.repeatX ⟨#[0]⟩ n w (by omega) (by show 1 * n ≤ _; omega)
  rw [show Tryz.repeatS_ren.f 105 = 57 by kernel_rfl] at h
  refine h.mono fun e w' ⟨he, hw⟩ => ⟨?_, hw⟩
  rw [he, ← repeatL_zero]; rfl

theorem put_zero (k n : Nat) (hk : k = 1 ∨ k = 2 ∨ k = 4 ∨ k = 8) (hn : n < 256 ^ k) : putV (bs (zeroL k)) ((0 : Nat) : Int) (k : Int) n = bs (leB k n) := by
  have hs : (bs (zeroL k)).size = k := by rw [bs_size, zeroL_length]
  rw [putV_yes (by unfold putOk fieldOk; rw [hs]; simp; exact ⟨by omega, hn⟩)]
  unfold putS putL
  rw [bs_list]
  unfold bs
  congr 2
  rw [List.drop_eq_nil_of_le (by rw [zeroL_length]; omega)]; simp
end Go.Proofs.YtanghmogeiiooaaGreatDoor

/- number, flag, fields. -/
namespace Go.Proofs.YtanghmogeiiooaaGreatDoor
set_option linter.unusedVariables false
open Go.RowKit

set_option maxHeartbeats 2000000 in
theorem number_any (k n : Nat) (hk : k = 1 ∨ k = 2 ∨ k = 4 ∨ k = 8) (hn : n < 256 ^ k) (w : World) :
    Calls Tryz.prog 117 #[.int .i64 (k : Int), .int .u64 (n : Int)] w fun e w' => e = .returned (.string (bs (leB k n))) ∧ Below w.heap.size w w' := by
  have hn64 : n < 18446744073709551616 := by
    have h3 : (256 : Nat) ^ k ≤ 256 ^ 8 := Nat.pow_le_pow_right (by decide) (by omega)
    have h4 : (256 : Nat) ^ 8 = 18446744073709551616 := by decide
    omega
  have R := Lib.hid (fun w => repeat_any k (by omega) w)
  have P := fun w => put_any (bs (zeroL k)) (by rw [bs_size, zeroL_length]; unfold maxLen; omega) 0 (k : Int) n hn64 w
  rw [show putV (bs (zeroL k)) 0 (k : Int) n = bs (leB k n) from put_zero k n hk hn] at P
  have P := Lib.hid P
  generalize putOk (bs (zeroL k)).size 0 (k : Int) n = ok at *
  generalize bs (leB k n) = S at *
  generalize bs (zeroL k) = Z at *
  clear hk hn
  go_enter Tryz.func117, Tryz.ntmps117
  go_wp2_with fail
  refine (R.out _).mono ?_; rintro e w1 ⟨rfl, hb⟩
  go_wp2_with fail
  refine (P.out _).mono ?_; rintro e w2 ⟨rfl, hb2⟩
  have hbb := bnext hb hb2
  go_wp2
  go_ret
  exact ⟨rfl, hbb⟩
theorem flag_one (b : Bool) : bs (leB 1 (if b then 1 else 0)) = bs [flagB b] := by cases b <;> rfl
theorem flag_any (b : Bool) (w : World) :
    Calls Tryz.prog 138 #[.bool b] w fun e w' => e = .returned (.string (bs [flagB b])) ∧ Below w.heap.size w w' := by
  cases b
  · have N := number_any 1 0 (by omega) (by decide) w
    rw [show bs (leB 1 0) = bs [flagB false] from rfl] at N
    have N := Lib.hid N
    go_enter Tryz.func138, Tryz.ntmps138
    go_wp2_with fail
    refine N.out.mono ?_; rintro e w1 ⟨rfl, hb⟩
    go_wp2
    go_ret
    exact ⟨rfl, hb⟩
  · have N := number_any 1 1 (by omega) (by decide) w
    rw [show bs (leB 1 1) = bs [flagB true] from rfl] at N
    have N := Lib.hid N
    go_enter Tryz.func138, Tryz.ntmps138
    go_wp2_with fail
    refine N.out.mono ?_; rintro e w1 ⟨rfl, hb⟩
    go_wp2
    go_ret
    exact ⟨rfl, hb⟩
end Go.Proofs.YtanghmogeiiooaaGreatDoor

/- A boxed record's cells; fields. -/
namespace Go.Proofs.YtanghmogeiiooaaGreatDoor
set_option linter.unusedVariables false
open Go.RowKit

/-- a record's six cells in block g -/
abbrev RecAt (g : Nat) (k : Int) (q : Nat) (p : Int) (vh vm : Value) (s : Nat) (w : World) : Prop := Blk g #[.int .i64 k, .int .u64 (q : Int), .int .i64 p, vh, vm, .int .u32 (s : Int)] 134 w
theorem rec_cells {g : Nat} {k p : Int} {q s : Nat} {vh vm : Value} {w : World} (h : RecAt g k q p vh vm s w) :
    w.cell? ⟨g, 0, none⟩ = some (.int .i64 k) ∧ w.cell? ⟨g, 1, none⟩ = some (.int .u64 (q : Int)) ∧ w.cell? ⟨g, 2, none⟩ = some (.int .i64 p) ∧ w.cell? ⟨g, 3, none⟩ = some vh ∧ w.cell? ⟨g, 4, none⟩ = some vm ∧ w.cell? ⟨g, 5, none⟩ = some (.int .u32 (s : Int)) :=
  ⟨h.cell 0, h.cell 1, h.cell 2, h.cell 3, h.cell 4, h.cell 5⟩

theorem add_bs (a b : List UInt8) (S T : ByteArray) (hS : S = bs a) (hT : T = bs b) : S ++ T = bs (a ++ b) := by rw [hS, hT, bs_append]

set_option maxHeartbeats 4000000 in
theorem fields_1 (r : Rec) (h : Ok1 r) (vh vm : Value) (w : World) :
    Calls Tryz.prog 118 #[recV r vh vm] w fun e w' => e = .returned (.string (bs (fieldsB r))) ∧ Below w.heap.size w w' := by
  have e1 : fieldsB r = leB 2 r.pos.toNat := by unfold fieldsB; rw [if_pos h.1]
  rw [e1]
  have gh : Tryz.prog.stoodInHeld 134 = false := by kernel_rfl
  obtain ⟨kind, seq, pos, homes, masked, sum⟩ := r
  obtain ⟨h1, h2, h3, _⟩ := h
  dsimp only at *
  subst h1
  obtain ⟨p, rfl⟩ := Int.eq_ofNat_of_zero_le h2
  have h3 : p ≤ 510 := by omega
  have N := Lib.hid (fun w => number_any 2 p (by omega) (by omega) w)
  rw [Int.toNat_natCast]
  clear e1 h2
  go_enter Tryz.func118, Tryz.ntmps118
  go_wp2_with fail
  refine (N.out _).mono ?_; rintro e w1 ⟨rfl, hb⟩
  have hbb := below_boxed hb
  go_wp2
  go_ret
  exact ⟨rfl, hbb⟩
set_option maxHeartbeats 4000000 in
theorem fields_4 (r : Rec) (h : Ok4 r) (f : Fits r) (vh vm : Value) (w : World) :
    Calls Tryz.prog 118 #[recV r vh vm] w fun e w' => e = .returned (.string (bs (fieldsB r))) ∧ Below w.heap.size w w' := by
  have e1 : fieldsB r = leB 4 r.sum := by unfold fieldsB; rw [if_neg (by rw [h.1]; omega), if_pos h.1]
  rw [e1]
  have gh : Tryz.prog.stoodInHeld 134 = false := by kernel_rfl
  have hs := f.sum
  obtain ⟨kind, seq, pos, homes, masked, sum⟩ := r
  obtain ⟨h1, _⟩ := h
  dsimp only at *
  subst h1
  have N := Lib.hid (fun w => number_any 4 sum (by omega) (by omega) w)
  clear e1 f
  go_enter Tryz.func118, Tryz.ntmps118
  go_wp2_with fail
  refine (N.out _).mono ?_; rintro e w1 ⟨rfl, hb⟩
  have hbb := below_boxed hb
  go_wp2
  go_ret
  exact ⟨rfl, hbb⟩

theorem homesB_snoc (l : List Int) (k : Nat) (h : k < l.length) : homesB (l.take (k + 1)) = homesB (l.take k) ++ leB 2 (l[k]).toNat := by
  rw [List.take_succ_eq_append_getElem h, homesB_append, homesB_cons]; simp [homesB]
theorem marksB_snoc (l : List Bool) (k : Nat) (h : k < l.length) : marksB (l.take (k + 1)) = marksB (l.take k) ++ [flagB l[k]] := by
  unfold marksB; rw [List.take_succ_eq_append_getElem h, List.map_append]; rfl
set_option maxHeartbeats 8000000 in
theorem fields_l (kind : Int) (hk : kind = 2 ∨ kind = 3) (seq : Nat) (pos : Int) (l : List Int) (m : List Bool) (sum : Nat) (hl : ∀ x ∈ l, 0 ≤ x ∧ x < 4096) (h1 : l.length ≤ 28) (h2 : m.length ≤ 28) (vh vm : Value) (w : World) (hh : IntsIn vh l w) (hm : BoolsIn vm m w) :
    Calls Tryz.prog 118 #[.agg #[.int .i64 kind, .int .u64 (seq : Int), .int .i64 pos, vh, vm, .int .u32 (sum : Int)]] w fun e w' => e = .returned (.string (bs (leB 1 l.length ++ (homesB l ++ marksB m)))) ∧ Below w.heap.size w w' := by
  have gh : Tryz.prog.stoodInHeld 134 = false := by kernel_rfl
  have d1 : (kind == 1) = false := by rw [beq_eq_false_iff_ne]; omega
  have d4 : (kind == 4) = false := by rw [beq_eq_false_iff_ne]; omega
  obtain ⟨ah, ch, rfl, a1, a2, a3, -⟩ := hh.shape
  obtain ⟨am, cm, rfl, b1, b2, b3, -⟩ := hm.shape
  have A3 := Lib.hid (row_cells a3)
  have B3 := Lib.hid (row_cells b3)
  have HL := Lib.hid hl
  obtain ⟨w0, hw0⟩ : ∃ w0, w.alloc (.cells #[.int .i64 kind, .int .u64 (seq : Int), .int .i64 pos, .slice ah l.length ch, .slice am m.length cm, .int .u32 (sum : Int)] 134) = w0 := ⟨_, rfl⟩
  have hB : RecAt w.heap.size kind seq pos (.slice ah l.length ch) (.slice am m.length cm) sum w0 := by rw [← hw0]; exact Blk.new _ _ w
  have hb0 : Below w.heap.size w w0 := by rw [← hw0]; exact balloc1 w _
  have hs0 : w0.heap.size = w.heap.size + 1 := by rw [← hw0]; exact size_alloc w _
  obtain ⟨c0, c1, c2, c3, c4, c5⟩ := rec_cells hB
  have N1 := Lib.hid (fun w => number_any 1 l.length (by omega) (by omega) w)
  have N2 := Lib.hid (fun (n : Nat) (hn : n < 4096) w => number_any 2 n (by omega) (by omega) w)
  have FL := Lib.hid flag_any
  have z1 : (bs (leB 1 l.length)).size = 1 := by rw [bs_size, leB_length]
  clear hk hh hm a3 b3 hl
  go_enter Tryz.func118, Tryz.ntmps118
  go_wp2_with fail
  refine (N1.out _).mono ?_; rintro e w1 ⟨rfl, hb1⟩
  have hB1 := hB.kept1 hb1
  have hbb1 : Below w.heap.size w w1 := bnext hb0 hb1
  have hs1 := hb1.size
  obtain ⟨x0, x1, x2, x3, x4, x5⟩ := rec_cells hB1
  clear c0 c1 c2 c3 c4 c5 hw0 hb1 hB
  go_wp2
  go_loopw [3, 30] (fun s i wr => ∃ k : Nat, s = .string (bs (leB 1 l.length ++ homesB (l.take k))) ∧ i = .int .i64 k ∧ k ≤ l.length ∧ RecAt w.heap.size kind seq pos (.slice ah l.length ch) (.slice am m.length cm) sum wr ∧ Below w.heap.size w wr) (fun _ i _ => l.length - (intOf i).toNat)
  case atStart => exact ⟨0, by rw [List.take_zero]; simp [homesB], rfl, Nat.zero_le _, hB1, hbb1⟩
  case round =>
    clear x0 x1 x2 x3 x4 x5 hB1 hbb1
    obtain ⟨k, rfl, rfl, hk, hB, hb⟩ := hrel
    by_cases hlt : k < l.length
    · obtain ⟨g, o, rfl, hg, hc⟩ := A3.out (by omega)
      have q1 := (hb.cell (p := ⟨g, o + k, none⟩) hg).trans (hc k hlt)
      obtain ⟨hx1, hx2⟩ := HL.out _ (List.getElem_mem hlt)
      have HS := Lib.hid (homesB_snoc l k hlt)
      have z2 : (bs (leB 1 l.length ++ homesB (l.take k))).size = 1 + 2 * k := by rw [bs_size, List.length_append, leB_length, homesB_length, List.length_take]; omega
      clear hc
      generalize l[k] = x at *
      obtain ⟨n, rfl⟩ := Int.eq_ofNat_of_zero_le hx1
      have z3 : (bs (leB 2 n)).size = 2 := by rw [bs_size, leB_length]
      go_wp2_with fail
      refine (N2.out n (by omega) _).mono ?_; rintro e w2 ⟨rfl, hb2⟩
      have hB2 := hB.kept1 hb2
      have hbb2 := bnext hb hb2
      clear hb2 hB
      go_wp2
      exact ⟨⟨k + 1, by rw [HS.out, Int.toNat_natCast, bs_append, List.append_assoc], by go_num, by omega, hB2, hbb2⟩, by simp [intOf]; omega⟩
    · obtain rfl : k = l.length := by omega
      obtain ⟨x0, x1, x2, x3, x4, x5⟩ := rec_cells hB
      rw [List.take_length]
      go_wp2
      go_loopw [3, 43] (fun s i wr => ∃ k : Nat, s = .string (bs (leB 1 l.length ++ (homesB l ++ marksB (m.take k)))) ∧ i = .int .i64 k ∧ k ≤ m.length ∧ Below w.heap.size w wr) (fun _ i _ => m.length - (intOf i).toNat)
      case atStart => exact ⟨0, by rw [List.take_zero]; simp [marksB], rfl, Nat.zero_le _, hb⟩
      case round =>
        clear x0 x1 x2 x3 x4 x5 hB hb
        obtain ⟨k, rfl, rfl, hk, hb⟩ := hrel
        by_cases hlt : k < m.length
        · obtain ⟨g, o, rfl, hg, hc⟩ := B3.out (by omega)
          have q1 := (hb.cell (p := ⟨g, o + k, none⟩) hg).trans (hc k hlt)
          have HS := Lib.hid (marksB_snoc m k hlt)
          have z2 : (bs (leB 1 l.length ++ (homesB l ++ marksB (m.take k)))).size = 1 + 2 * l.length + k := by rw [bs_size, List.length_append, List.length_append, leB_length, homesB_length, marksB_length, List.length_take]; omega
          clear hc
          generalize m[k] = x at *
          have z3 : (bs [flagB x]).size = 1 := rfl
          go_wp2_with fail
          refine (FL.out x _).mono ?_; rintro e w2 ⟨rfl, hb2⟩
          have hbb2 := bnext hb hb2
          clear hb2
          go_wp2
          exact ⟨⟨k + 1, by rw [HS.out, bs_append, List.append_assoc, List.append_assoc], by go_num, by omega, hbb2⟩, by simp [intOf]; omega⟩
        · obtain rfl : k = m.length := by omega
          rw [List.take_length]
          go_wp2
          go_ret
          exact ⟨rfl, hb⟩
theorem fields_any (r : Rec) (h : RecOk r) (f : Fits r) (vh vm : Value) (w : World) (hr : RecIn r vh vm w) :
    Calls Tryz.prog 118 #[recV r vh vm] w fun e w' => e = .returned (.string (bs (fieldsB r))) ∧ Below w.heap.size w w' := by
  rcases h with h | h | h | h
  · exact fields_1 r h vh vm w
  · have e1 : fieldsB r = leB 1 r.homes.length ++ (homesB r.homes ++ marksB r.masked) := list_split (by first | exact .inl h.1 | exact .inr h.1)
    rw [e1]
    have := h.2.1.2.1
    exact fields_l r.kind (.inl h.1) r.seq r.pos r.homes r.masked r.sum (fun x hx => by obtain ⟨i, hi, rfl⟩ := List.getElem_of_mem hx; exact ok_bounds h.2.1 i hi) (by omega) (by have := h.2.2.1; omega) vh vm w hr.1 hr.2
  · have e1 : fieldsB r = leB 1 r.homes.length ++ (homesB r.homes ++ marksB r.masked) := list_split (by first | exact .inl h.1 | exact .inr h.1)
    rw [e1]
    have := h.2.1.2.1
    exact fields_l r.kind (.inr h.1) r.seq r.pos r.homes r.masked r.sum (fun x hx => by obtain ⟨i, hi, rfl⟩ := List.getElem_of_mem hx; exact ok_bounds h.2.1 i hi) (by omega) (by have := h.2.2.1; omega) vh vm w hr.1 hr.2
  · exact fields_4 r h f vh vm w
end Go.Proofs.YtanghmogeiiooaaGreatDoor

/- The walk of BuffersLast. -/
import Derived.Test.YticbielifcjpdaaCRows
import Derived.OpenShut
namespace Go.Proofs.Yticbielifcjpdaa
set_option linter.unusedVariables false
open Go.RowKit

/-- v is a row of bytes -/
structure U8sIn (v : Value) (bs : List Nat) (w : World) : Prop where
  row : RowIn 1 v bs.length (bs.map fun z : Nat => Value.int .u8 (z : Int)) w
  small : ∀ z ∈ bs, z < 256
section
open Go.ChangeShapes Go.WideShapes
set_option maxRecDepth 100000 in
theorem open_u8s {H : Type} {enc : TypeId × Value → H} {W : World} {base : Nat} {v : Value} {d : DataW H} {p : List MemPlace} (hval : Value.okWide Try.prog W .any base 32 v)
    (h : DataW.Trod enc Try.prog W 0 (fun _ => true) true 32 v d p) : ∃ bs, U8sIn v bs W := by
  obtain ⟨a0, len, cap, rfl⟩ := okWide_slice Try.underlying32 hval
  obtain ⟨fuel, hf⟩ := h
  obtain ⟨l, hl, hw⟩ := open_ints_cell Try.underlying32 Try.underlying5 (by kernel_rfl) (by simpa [Value.cells] using hf)
  have hb : ∀ x ∈ l, 0 ≤ x ∧ x < 256 := fun x hx => by have := bounds_u8 (hw x hx); omega
  refine ⟨l.map Int.toNat, ?_, fun z hz => ?_⟩
  · rw [List.length_map, List.map_map]
    have e : l.map ((fun z : Nat => Value.int .u8 (z : Int)) ∘ Int.toNat) = l.map (Value.int .u8) := List.map_congr_left fun x hx => by
      show Value.int .u8 ((x.toNat : Nat) : Int) = Value.int .u8 x
      rw [Int.toNat_of_nonneg (hb x hx).1]
    rw [e]; exact hl
  · obtain ⟨x, hx, rfl⟩ := List.mem_map.1 hz
    have := hb x hx
    omega
end
theorem plain_lists {C : CS} {o : List Nat} (h : lastOf C o) : listB C true false = [] := by
  rw [List.eq_nil_iff_forall_not_mem]
  intro b hb
  have h2 := ((list_mem C true false b).1 hb).2
  unfold hasB at h2
  cases ha : atB C.L b with
  | none => rw [ha] at h2; cases h2
  | some x =>
    rw [ha] at h2
    have := (h.plain x (atB_some ha).1).1
    simp [this] at h2
structure Last (c d B hi n most : Nat) (vo : Value) (o : List Nat) (C : CS) (M : Nat → Prop) (i : Nat) (w0 w : World) : Prop where
  run : Run c d B hi M i C w0 w
  st : C.st = freshSt n zeroB
  most : C.most = most
  last : lastOf C o
  len : o.length ≤ i
  small : ∀ x ∈ o, x < n
  row : FreeNats B hi M vo o w
set_option maxRecDepth 100000 in
set_option maxHeartbeats 16000000 in
theorem last_walk (s0 s1 : Nat) (h0 : s0 < 256) (h1 : s1 < 256) (v : Value) (bs : List Nat) (w : World) (h : U8sIn v bs w) :
    Calls Try.prog 7 #[.agg #[.int .u8 (s0 : Int), .int .u8 (s1 : Int)], v] w fun e w' => e = .returned (.bool true) ∧ Below w.heap.size w w' := by
  have mixed : Try.prog.follows .mixedOrders = true := by kernel_rfl
  have b1 := balloc1 w (.cells #[.int .u8 (s0 : Int), .int .u8 (s1 : Int)] 50)
  have MD := Lib.hid (cmade_any s0 s1 h0 h1)
  have AL := Lib.hid alive_any
  obtain ⟨ad, cap, rfl, q1, q2, q3, q4⟩ := h.row.shape
  have H3 := Lib.hid q3
  have HS := Lib.hid h.small
  have hHB := Lib.hid b1
  have hBk := Lib.hid (Blk.new #[.int .u8 (s0 : Int), .int .u8 (s1 : Int)] 50 w)
  have z0 : (w.alloc (.cells #[.int .u8 (s0 : Int), .int .u8 (s1 : Int)] 50)).cell? ⟨w.heap.size, 0, none⟩ = some (.int .u8 (s0 : Int)) := hBk.out.cell 0
  have z1 : (w.alloc (.cells #[.int .u8 (s0 : Int), .int .u8 (s1 : Int)] 50)).cell? ⟨w.heap.size, 1, none⟩ = some (.int .u8 (s1 : Int)) := hBk.out.cell 1
  have hW1 : w.heap.size < (w.alloc (.cells #[.int .u8 (s0 : Int), .int .u8 (s1 : Int)] 50)).heap.size := by rw [size_alloc]; omega
  clear h q3 q4 b1 hBk
  by_cases h300 : (300 : Int) < (bs.length : Int)
  · go_enter Try.func7, Try.ntmps7
    go_wp2
    go_ret
    exact ⟨rfl, hHB.out⟩
  go_enter Try.func7, Try.ntmps7
  generalize hw1 : (w.alloc (.cells #[.int .u8 (s0 : Int), .int .u8 (s1 : Int)] 50)) = w1 at *
  go_wp2_with fail
  try rw [hw1]
  refine (MD.out _).mono ?_; rintro e w2 ⟨d, hi, c, M, rfl, hr⟩
  have hn16 : 1 + s0 % 16 ≤ 16 := by omega
  have hn1 : 1 ≤ 1 + s0 % 16 := by omega
  have he1 : ((s1 : Int) % 8) = ((1 + s1 % 8 : Nat) : Int) - 1 := by omega
  have hm8 : 1 + s1 % 8 ≤ 8 := by omega
  have HE1 := Lib.hid he1
  clear he1
  generalize 1 + s0 % 16 = n at *
  generalize 1 + s1 % 8 = most at *
  have HL0 : Hid (Last c d w1.heap.size hi n most (.slice none 0 0) [] ⟨freshSt n zeroB, most, []⟩ M 0 w1 w2) := Lib.hid ⟨hr, rfl, rfl, last_nil rfl, Nat.zero_le _, (fun x hx => by cases hx), FreeNats.nil⟩
  clear hr MD z0 hw1
  have Z1 := Lib.hid z1
  clear z1
  go_wp2
  go_loopw [7, 8] (fun vo q wr => ∃ (i : Nat) (o : List Nat) (C : CS) (M : Nat → Prop), q = .int .i64 i ∧ i ≤ bs.length ∧ Last c d w1.heap.size hi n most vo o C M i w1 wr) (fun _ q _ => bs.length - (intOf q).toNat)
  case atStart => exact ⟨0, _, _, M, rfl, Nat.zero_le _, HL0.out⟩
  case round =>
    clear HL0
    rename_i M0
    obtain ⟨i, o, C, M, rfl, hiI, hR⟩ := hrel
    have HR := Lib.hid hR
    clear hR
    by_cases hlt : i < bs.length
    · obtain ⟨g, ao, rfl, hg, hc⟩ := H3.out (by rw [List.length_map]; omega)
      have hc := hc i (.int .u8 ((bs[i] : Nat) : Int)) (by rw [List.getElem?_map, List.getElem?_eq_getElem hlt]; rfl)
      have hz := HS.out bs[i] (List.getElem_mem hlt)
      have hbw := hHB.out.trans (HR.out.run.below.mono hHB.out.size)
      have kc : ∀ p : BelowP wr, p.to.cell? ⟨g, ao + i, none⟩ = some (.int .u8 ((bs[i] : Nat) : Int)) := fun p => ((hbw.trans (p.h.mono hbw.size)).cell (p := ⟨g, ao + i, none⟩) hg).trans hc
      have BLK : Hid (∀ p : BelowP wr, Calls Try.prog 22 #[.pointer (some ⟨d, 0, none⟩)] p.to fun e w' => e = .returned (.int .i64 (n : Int)) ∧ Below p.to.heap.size p.to w') := Lib.hid fun p => (blocks_any p.to (HR.out.run.kept1 p.h).dev).mono fun e w' ⟨e1, e2⟩ => ⟨by rw [e1, HR.out.st]; rfl, by rw [← e2]; exact Below.refl _ _⟩
      generalize bs[i] = z at *
      clear hc H3 HS hbw
      go_wp2
      refine wp_region_quiet_below mixed (by kernel_rfl) ?_
      repeat (go_big_quiet_step (first | (go_at_call 22; refine calls_below (BLK.out _))))
      refine wpQuiet_nil ?_
      intro w0q hw'
      obtain ⟨⟨wq, bq⟩, hw''⟩ := hw'
      have hw2 : wq = w0q := hw''.symm
      clear hw''
      subst hw2
      have hzn : (z : Int) % (n : Int) = ((z % n : Nat) : Int) := by omega
      have hbn : z % n < n := Nat.mod_lt _ (by omega)
      generalize z % n = b at *
      have HR2 := Lib.hid (HR.out.run.kept1 bq)
      have HO2 := Lib.hid (HR.out.row.kept1 bq)
      have HG := get_last HR.out.run.cache.ok HR.out.last (b := b) (by rw [HR.out.st]; exact hbn)
      have GF := Lib.hid (HR2.out.getF (b : Int) ⟨by omega, by omega⟩ (by rw [HR.out.st]; exact Nat.zero_le _) (by omega))
      have hG1' := HG.1
      have HG2 := Lib.hid HG.2
      have HM : Hid ((getC C b).2.2.most = most) := Lib.hid ((get_ok HR.out.run.cache.ok b).2.2.1.trans HR.out.most)
      have HST := Lib.hid HR.out.st
      have hol := HR.out.len
      have HSM := Lib.hid HR.out.small
      clear kc BLK HG bq HR
      go_wp2_with fail
      refine GF.out.mono ?_; rintro e w3 ⟨rfl, M3, hr3, hf3⟩
      have HO3 := Lib.hid (HO2.out.kept hf3)
      have HR3 := Lib.hid hr3
      have hcode := HG2.out
      clear GF hf3 hr3 HO2 HR2 hcode
      rw [hG1']
      have WO := Lib.hid (without_any _ o (b : Int) (by omega) w3 HO3.out.in)
      generalize hC2 : (getC C b).2.2 = C2 at *
      generalize (getC C b).1 = tx at *
      clear hC2
      go_wp2_with fail
      refine WO.out.mono ?_; rintro e w4 ⟨v4, rfl, hv4, hb4⟩
      have hlen := wo_length o (b : Int)
      rw [wo_nat] at hv4 hlen
      have hs4 := hb4.size
      go_wp2_with (at_builtin; refine wpList_app1 rfl _ _ rfl w3.heap.size _ _ b rfl (hv4.alloc _) w4 rfl rfl (by omega) (by rw [size_alloc]; omega) ?_)
      intro v5 w5 h5 b5
      have hb5 := (hb4.alloc hs4 (.cells #[.int .i64 (b : Int)] 3)).trans b5
      have HF5 := h5.free HR3.out (Nat.le_refl _)
      have HL5 : Hid (Last c d w1.heap.size hi n most v5 (dropN o b ++ [b]) C2 M3 (i + 1) w1 w5) := Lib.hid ⟨HR3.out.kept1 hb5, HG2.out.1.trans HST.out, HM.out, HG2.out.2, by rw [List.length_append, List.length_singleton]; omega, (fun x hx => (List.mem_append.1 hx).elim (fun h => HSM.out x (dropN_mem.1 h).1) fun h => by rw [List.mem_singleton.1 h]; exact hbn), HF5⟩
      have hlo : (dropN o b ++ [b]).length ≤ i + 1 := HL5.out.len
      have hl1 : 1 ≤ (dropN o b ++ [b]).length := by rw [List.length_append, List.length_singleton]; omega
      clear hv4 hb4 WO HO3 HR3 HF5 HSM HG2 HM HST hs4 h5 b5 hb5 hlen
      generalize dropN o b ++ [b] = o2 at *
      obtain ⟨a5, c5, rfl, e5, f5⟩ := HL5.out.row.shape
      have z1 : w5.cell? ⟨w.heap.size, 1, none⟩ = some (.int .u8 (s1 : Int)) := (HL5.out.run.below.cell (p := ⟨w.heap.size, 1, none⟩) hW1).trans Z1.out
      have he1 := HE1.out
      go_wp2
      clear he1
      have hmax : max 0 ((o2.length : Int) - 1 - ((most : Int) - 1)) = ((o2.length - most : Nat) : Int) := by omega
      obtain ⟨fs, hfs⟩ : ∃ fs, fs = o2.length - most := ⟨_, rfl⟩
      rw [hmax, ← hfs]
      have HFS := Lib.hid hfs
      clear hmax z1 hc hfs
      go_loopw [13] (fun q wr => ∃ k : Nat, q = .int .i64 k ∧ k ≤ o2.length ∧ wr = w5) (fun q _ => o2.length - (intOf q).toNat)
      case atStart => exact ⟨0, rfl, Nat.zero_le _, rfl⟩
      case round =>
        obtain ⟨k, rfl, hk, rfl⟩ := hrel
        by_cases hlk : k < o2.length
        · obtain ⟨gk, rfl, hck⟩ := HL5.out.row.cell hlk
          have hall := has_last HL5.out.last hlk
          have hmm : most = C2.most := HL5.out.most.symm
          have hzk : o2[k] ≤ 4000000 := by have := HL5.out.small o2[k] (List.getElem_mem hlk); omega
          have HA := HL5.out.run.hasF (o2[k]) hzk
          rw [hall, ← hmm, ← HFS.out] at HA
          generalize o2[k] = zk at *
          clear hall hmm hbn hzn
          by_cases hge : fs ≤ k
          · rw [decide_eq_true hge] at HA
            have HA := Lib.hid HA
            have hge2 : (fs : Int) ≤ (k : Int) := by omega
            go_wp2_with fail
            refine HA.out.mono ?_; rintro e w' ⟨rfl, rfl⟩
            clear HA hck
            go_wp2
            exact ⟨⟨k + 1, by go_num, by omega, by first | trivial | rfl⟩, by simp [intOf]; omega⟩
          · rw [decide_eq_false hge] at HA
            have HA := Lib.hid HA
            have hge2 : ¬ ((fs : Int) ≤ (k : Int)) := by omega
            go_wp2_with fail
            refine HA.out.mono ?_; rintro e w' ⟨rfl, rfl⟩
            clear HA hck
            go_wp2
            exact ⟨⟨k + 1, by go_num, by omega, by first | trivial | rfl⟩, by simp [intOf]; omega⟩
        · obtain rfl : k = o2.length := by omega
          clear hbn hzn
          go_wp2
          exact ⟨⟨i + 1, o2, C2, M3, by go_num, by omega, HL5.out⟩, by simp [intOf]; omega⟩
    · obtain rfl : i = bs.length := by omega
      have HB := Lib.hid (hHB.out.trans (HR.out.run.below.mono hHB.out.size))
      have AC := Lib.hid (acts_any wr HR.out.run.dev)
      have DI := Lib.hid (dirty_any wr HR.out.run.cache)
      have hpl := plain_lists HR.out.last
      rw [hpl] at DI
      have hst := HR.out.st
      rw [hst] at AC
      clear HR H3 HS Z1 hst hpl
      go_wp2_with fail
      refine AC.out.mono ?_; rintro e w' ⟨rfl, rfl⟩
      clear AC
      go_wp2_with fail
      refine DI.out.mono ?_; rintro e w3 ⟨vd, rfl, hvd, b3⟩
      obtain ⟨ad3, cap3, rfl, -, -, -, -⟩ := (natsAt_in hvd).shape
      have HB3 := Lib.hid (bnext HB.out b3)
      clear DI hvd b3 HB
      go_wp2_with fail
      refine (AL.out _).mono ?_; rintro e w4 ⟨rfl, b4⟩
      have HB4 := Lib.hid (bnext HB3.out b4)
      clear b4 HB3
      go_wp2
      go_ret
      exact ⟨rfl, HB4.out⟩
end Go.Proofs.Yticbielifcjpdaa

/- The walk of SumsXor. -/
import Derived.Test.YtelnmkgilnkliaaDoorSBurst
import Derived.Laws.OwnMore
import Derived.StillTailTactics
import Derived.IntWalk
namespace Go.Proofs.YtelnmkgilnkliaaDoor
open Go.RowKit

theorem zeros_made (n : Nat) (hn : n ≤ 20000) (w : World) :
    (Instr.makeSlice 34 (.int .i64 n) (.int .i64 n)).run Tryd.prog w = .ok (.slice (some ⟨w.heap.size, 0, none⟩) n n) (w.alloc (.cells (madeCells #[.int .u8 0] n) 5)) := by
  have h0 : (Tryd.prog.info? 5).map (fun i => (i.zero, i.bytes, i.size)) = some (some (.int .u8 0), 1, 1) := by kernel_rfl
  obtain ⟨i, hi, h1⟩ := Option.map_eq_some_iff.1 h0
  simp only [Prod.mk.injEq] at h1
  obtain ⟨hz, hb, hs⟩ := h1
  have h := run_make (P := Tryd.prog) w 34 5 i (.int .u8 0) Tryd.underlying34 hi hz .i64 .i64 n n (by omega) (Int.le_refl _) (by rw [hb]; omega) (by omega)
  simpa [hs, Value.cells] using h
theorem made_at (n j : Nat) (h : j < n) : (madeCells #[.int .u8 0] n)[j]? = some (.int .u8 0) := by
  have e : (madeCells #[.int .u8 0] n)[j]? = (madeCells #[.int .u8 0] n).toList[j]? := by simp
  rw [e, toList_madeCells_one]; simp [h]

theorem tab_drewN {w : World} (h : Tab w) (m : Nat) : Tab (w.drewN m) := fun i hi => h i hi
theorem quiet_same {P : Program} {f : FuncId} {args : Array Value} {w : World} {n : Nat} {v : Value}
    (h : Calls P f args (w.drewN n) fun e w' => e = .returned v ∧ w.drewN n = w') : Calls P f args (w.drewN n) fun e w'' => e = .returned v ∧ ∃ m, w'' = w.drewN m :=
  h.mono fun _ _ ⟨he, hm⟩ => ⟨he, n, hm.symm⟩

set_option maxHeartbeats 400000 in
theorem xor_in (x y z : ByteArray) (n : Nat) (hn : n ≤ 20000) (hx : n = x.size) (hy : n = y.size) (hz : n = z.size) (w : World) (ht : Tab w) :
    Calls Tryd.prog 7 #[.agg #[.string x, .string y, .string z]] w fun e w' => e = .returned (.bool true) ∧ Below w.heap.size w w' := by
  have hbox : Below w.heap.size w (w.alloc (.cells #[.string x, .string y, .string z] 33)) := (Below.refl _ _).alloc (Nat.le_refl _) _
  have hmake := zeros_made n hn (w.alloc (.cells #[.string x, .string y, .string z] 33))
  have hx1 : x.size ≤ n := by omega
  have hy1 : y.size ≤ n := by omega
  have hz1 : z.size ≤ n := by omega
  have hx2 : n ≤ x.size := by omega
  have hy2 : n ≤ y.size := by omega
  have hz2 : n ≤ z.size := by omega
  have HX := Lib.hid hx
  have HY := Lib.hid hy
  have HZ := Lib.hid hz
  clear hx hy hz
  have ex : ((x.size : Nat) : Int) = (n : Int) := by omega
  have ey : ((y.size : Nat) : Int) = (n : Int) := by omega
  have ez : ((z.size : Nat) : Int) = (n : Int) := by omega
  go_enter Tryd.func7, Tryd.ntmps7
  go_wp2
  clear hmake
  go_loopw [5] (fun i wr => ∃ j : Nat, j ≤ n ∧ i = .int .i64 j ∧ Below (w.heap.size + 1) (w.alloc (.cells #[.string x, .string y, .string z] 33)) wr ∧ w.heap.size + 1 < wr.heap.size ∧ ∃ l : List UInt8, Hid (l.length = n) ∧ Hid (∀ q < j, (l[q]?.getD 0).toNat = (x.data.toList[q]?.getD 0).toNat ^^^ (y.data.toList[q]?.getD 0).toNat ^^^ (z.data.toList[q]?.getD 0).toNat) ∧ ∀ q (h : q < n), wr.cell? ⟨w.heap.size + 1, q, none⟩ = some (.int .u8 (((l[q]?.getD 0).toNat : Nat) : Int)) ∧ wr.frozen? ⟨w.heap.size + 1, q, none⟩ = false) (fun i _ => n - (intOf i).toNat)
  case atStart =>
    refine ⟨0, Nat.zero_le _, rfl, (Below.refl _ _).alloc (by simp) _, by show _ < ((w.heap.push _).push _).size; simp, List.replicate n 0, Lib.hid (List.length_replicate ..), Lib.hid (fun q hq => absurd hq (Nat.not_lt_zero q)), fun q hq => ⟨?_, ?_⟩⟩
    · rw [show w.heap.size + 1 = (w.alloc (.cells #[.string x, .string y, .string z] 33)).heap.size by simp, World.cell?_alloc_mark, made_at n q hq]
      simp [hq]
    · rw [show w.heap.size + 1 = (w.alloc (.cells #[.string x, .string y, .string z] 33)).heap.size by simp, World.frozen?_alloc_mark]
      simp
  case round =>
    obtain ⟨j, hj, rfl, hb, hsz, l, HL, HR, hc⟩ := hrel
    have c0 : wr.cell? ⟨w.heap.size, 0, none⟩ = some (.string x) := by
      rw [hb.cell (p := ⟨w.heap.size, 0, none⟩) (by simp), World.cell?_alloc_mark]; rfl
    have c1 : wr.cell? ⟨w.heap.size, 1, none⟩ = some (.string y) := by
      rw [hb.cell (p := ⟨w.heap.size, 1, none⟩) (by simp), World.cell?_alloc_mark]; rfl
    have c2 : wr.cell? ⟨w.heap.size, 2, none⟩ = some (.string z) := by
      rw [hb.cell (p := ⟨w.heap.size, 2, none⟩) (by simp), World.cell?_alloc_mark]; rfl
    by_cases hlt : j < n
    · obtain ⟨hc1, hf1⟩ := hc j hlt
      have HK := Lib.hid hc
      clear hc
      have jx : j < x.size := by omega
      have jy : j < y.size := by omega
      have jz : j < z.size := by omega
      have ux := x[j].toNat_lt
      have uy := y[j].toNat_lt
      have uz := z[j].toNat_lt
      obtain ⟨v, hv, f⟩ : ∃ v : UInt8, v.toNat = x[j].toNat ^^^ y[j].toNat ^^^ z[j].toNat ∧ bits .xor .u8 (bits .xor .u8 (x[j].toNat : Int) (y[j].toNat : Int)) (z[j].toNat : Int) = ((v.toNat : Nat) : Int) := by
        have h1 : x[j].toNat ^^^ y[j].toNat < 2 ^ 8 := Nat.xor_lt_two_pow (n := 8) ux uy
        have h2 : x[j].toNat ^^^ y[j].toNat ^^^ z[j].toNat < 2 ^ 8 := Nat.xor_lt_two_pow (n := 8) h1 uz
        have e1 : (UInt8.ofNat (x[j].toNat ^^^ y[j].toNat ^^^ z[j].toNat)).toNat = x[j].toNat ^^^ y[j].toNat ^^^ z[j].toNat := by
          simp only [UInt8.toNat_ofNat']; exact Nat.mod_eq_of_lt h2
        exact ⟨_, e1, by rw [e1, xor8 _ _ ux uy, xor8 _ _ h1 uz]⟩
      have HV := Lib.hid hv
      have HF := Lib.hid f
      clear hv f
      go_wp2
      go_still_tail 17, (by kernel_rfl)
      change wpList _ _ _ _ _ wr.drew
      simp only [HF.out]
      have hc2 : wr.drew.cell? ⟨w.heap.size + 1, j, none⟩ = some (.int .u8 (((l[j]?.getD 0).toNat : Nat) : Int)) := hc1
      have hf2 : wr.drew.frozen? ⟨w.heap.size + 1, j, none⟩ = false := hf1
      have hb2 := hb.drew
      have HK2 : Hid (∀ q (h : q < n), wr.drew.cell? ⟨w.heap.size + 1, q, none⟩ = some (.int .u8 (((l[q]?.getD 0).toNat : Nat) : Int)) ∧ wr.drew.frozen? ⟨w.heap.size + 1, q, none⟩ = false) := Lib.hid HK.out
      have hsz2 : w.heap.size + 1 < wr.drew.heap.size := hsz
      clear hc1 hf1 hb HK hsz c0 c1 c2
      generalize wr.drew = wq at *
      go_wp2
      refine ⟨⟨j + 1, by omega, by go_num, hb2.setCell (Nat.le_refl _) _, by simpa [World.setCell] using hsz2, l.set j v, Lib.hid (by rw [List.length_set]; exact HL.out), Lib.hid ?_, fun i hi => ⟨?_, ?_⟩⟩, by simp [intOf]; omega⟩
      · intro q hq
        by_cases hqj : q = j
        · subst hqj
          rw [List.getElem?_set_self (by rw [HL.out]; exact hlt)]
          rw [List.getElem?_eq_getElem (show q < x.data.toList.length from jx), List.getElem?_eq_getElem (show q < y.data.toList.length from jy), List.getElem?_eq_getElem (show q < z.data.toList.length from jz)]
          exact HV.out
        · rw [List.getElem?_set_ne (by omega)]
          exact HR.out q (by omega)
      · by_cases hi' : i = j
        · subst hi'
          rw [World.cell?_setCell_same _ _ _ hc2, List.getElem?_set_self (by rw [HL.out]; exact hlt)]; rfl
        · rw [World.cell?_setCell_other _ _ _ _ (by simp [hi']), List.getElem?_set_ne (by omega)]
          exact (HK2.out i hi).1
      · rw [World.frozen?_setCell]; exact (HK2.out i hi).2
    · obtain rfl : j = n := by omega
      have hback := run_convert_bytes_back (P := Tryd.prog) wr 34 9 5 ⟨w.heap.size + 1, 0, none⟩ j l Tryd.underlying34 Tryd.underlying5 Tryd.underlying9 (fun i hi => by
        have := (hc i (by rw [← HL.out]; exact hi)).1
        rw [List.getElem?_eq_getElem hi] at this
        rw [plain_add, Nat.zero_add]; exact this)
      rw [HL.out] at hback
      have hb0 : Below w.heap.size w wr := hbox.trans (hb.mono (by simp))
      have htab := tab_below ht hb0
      have h3 := run_three 4294967295 4294967295 4294967295 x.data.toList y.data.toList z.data.toList l (by rw [HL.out]; exact HX.out.symm) (by rw [HL.out]; exact HY.out.symm) (by rw [HL.out]; exact HZ.out.symm) (fun i hi => by
        have hi2 : i < j := by rw [← HL.out]; exact hi
        have h := HR.out i hi2
        rw [List.getElem?_eq_getElem hi, List.getElem?_eq_getElem (show i < x.data.toList.length by show i < x.size; omega), List.getElem?_eq_getElem (show i < y.data.toList.length by show i < y.size; omega), List.getElem?_eq_getElem (show i < z.data.toList.length by show i < z.size; omega)] at h
        exact h)
      have hm : moreV 0 l = moreV 0 x.data.toList ^^^ moreV 0 y.data.toList ^^^ moreV 0 z.data.toList := by
        unfold moreV
        rw [show (4294967295 ^^^ 0 : Nat) = 4294967295 from rfl]
        rw [show (4294967295 ^^^ 4294967295 ^^^ 4294967295 : Nat) = 4294967295 from rfl] at h3
        rw [h3]
        generalize run 4294967295 x.data.toList = p
        generalize run 4294967295 y.data.toList = q
        generalize run 4294967295 z.data.toList = r
        have e : (4294967295 ^^^ p) ^^^ (4294967295 ^^^ q) ^^^ (4294967295 ^^^ r) = (4294967295 ^^^ 4294967295) ^^^ (4294967295 ^^^ (p ^^^ q ^^^ r)) := by ac_rfl
        rw [e, Nat.xor_self, Nat.zero_xor]
      have hE : (((moreV 0 l : Nat) : Int) == bits .xor .u32 (bits .xor .u32 ((moreV 0 x.data.toList : Nat) : Int) ((moreV 0 y.data.toList : Nat) : Int)) ((moreV 0 z.data.toList : Nat) : Int)) = true := by
        rw [xor32 _ _ (moreV_lt _ _ (by decide)) (moreV_lt _ _ (by decide)), xor32 _ _ (Nat.xor_lt_two_pow (n := 32) (moreV_lt _ _ (by decide)) (moreV_lt _ _ (by decide))) (moreV_lt _ _ (by decide)), hm]
        simp
      have hback2 : ∀ m, (convert 34 9 (.slice (some ⟨w.heap.size + 1, 0, none⟩) j j)).run Tryd.prog (wr.drewN m) = .ok (.string ⟨l.toArray⟩) (wr.drewN m) := fun m => by
        have h := run_convert_bytes_back (P := Tryd.prog) (wr.drewN m) 34 9 5 ⟨w.heap.size + 1, 0, none⟩ j l Tryd.underlying34 Tryd.underlying5 Tryd.underlying9 (fun i hi => by
          have := (hc i (by rw [← HL.out]; exact hi)).1
          rw [List.getElem?_eq_getElem hi] at this
          rw [plain_add, Nat.zero_add]; exact this)
        rw [HL.out] at h
        exact h
      have S := Lib.hid (fun m => sum_any ⟨l.toArray⟩ (by unfold maxLen; show l.length ≤ _; rw [HL.out]; omega) (wr.drewN m) (tab_drewN htab m))
      have SX := Lib.hid (fun m => sum_any x (by unfold maxLen; omega) (wr.drewN m) (tab_drewN htab m))
      have SY := Lib.hid (fun m => sum_any y (by unfold maxLen; omega) (wr.drewN m) (tab_drewN htab m))
      have SZ := Lib.hid (fun m => sum_any z (by unfold maxLen; omega) (wr.drewN m) (tab_drewN htab m))
      have AL := Lib.hid (fun m => alive_any (wr.drewN m) (tab_drewN htab m))
      clear hback hm h3 htab hc ht
      go_wp2
      go_quiet ((first | (go_at_call 14; exact quiet_same (AL.out _)) | (go_at_call 10; first | exact quiet_same (S.out _) | exact quiet_same (SX.out _) | exact quiet_same (SY.out _) | exact quiet_same (SZ.out _))))
      go_wp2
      go_ret
      exact ⟨rfl, below_drewN hb0 _⟩

set_option maxHeartbeats 400000 in
theorem xor_out (x y z : ByteArray) (hx : x.size ≤ maxLen) (hy : y.size ≤ maxLen) (hz : z.size ≤ maxLen) (h : 20000 < x.size ∨ y.size ≠ x.size ∨ z.size ≠ x.size) (w : World) (ht : Tab w) :
    Calls Tryd.prog 7 #[.agg #[.string x, .string y, .string z]] w fun e w' => e = .returned (.bool true) ∧ Below w.heap.size w w' := by
  have hbox : Below w.heap.size w (w.alloc (.cells #[.string x, .string y, .string z] 33)) := (Below.refl _ _).alloc (Nat.le_refl _) _
  have AL := Lib.hid (alive_any _ (tab_below ht hbox))
  clear ht
  unfold maxLen at hx hy hz
  by_cases h1 : 20000 < x.size
  · clear h
    go_enter Tryd.func7, Tryd.ntmps7
    go_wp2_with fail
    refine AL.out.mono ?_; rintro e w' ⟨rfl, rfl⟩
    go_wp2
    go_ret
    exact ⟨rfl, hbox⟩
  · by_cases h2 : y.size = x.size
    · have e1 : ((y.size : Int) != (x.size : Int)) = false := by rw [h2]; simp
      have e2 : ((z.size : Int) != (x.size : Int)) = true := by
        simp only [bne_iff_ne, ne_eq, Int.natCast_inj]; omega
      clear h h2
      go_enter Tryd.func7, Tryd.ntmps7
      go_wp2_with fail
      refine AL.out.mono ?_; rintro e w' ⟨rfl, rfl⟩
      go_wp2
      go_ret
      exact ⟨rfl, hbox⟩
    · have e1 : ((y.size : Int) != (x.size : Int)) = true := by
        simp only [bne_iff_ne, ne_eq, Int.natCast_inj]; omega
      clear h h2
      go_enter Tryd.func7, Tryd.ntmps7
      go_wp2_with fail
      refine AL.out.mono ?_; rintro e w' ⟨rfl, rfl⟩
      go_wp2
      go_ret
      exact ⟨rfl, hbox⟩

theorem xor_walk (x y z : ByteArray) (hx : x.size ≤ maxLen) (hy : y.size ≤ maxLen) (hz : z.size ≤ maxLen) (w : World) (ht : Tab w) :
    Calls Tryd.prog 7 #[.agg #[.string x, .string y, .string z]] w fun e w' => e = .returned (.bool true) ∧ Below w.heap.size w w' := by
  by_cases h : 20000 < x.size ∨ y.size ≠ x.size ∨ z.size ≠ x.size
  · exact xor_out x y z hx hy hz h w ht
  · exact xor_in x y z x.size (by omega) rfl (by omega) (by omega) w ht
end Go.Proofs.YtelnmkgilnkliaaDoor

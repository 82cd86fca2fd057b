/- The walk of RecordsDecode. -/
import Derived.Test.YtfgjogaoogiddaaKRAny
import Derived.StillTailTactics
import Derived.Test.YtfgjogaoogiddaaKAlive
import Derived.Test.YtfgjogaoogiddaaKSame
namespace Go.Proofs.Ytfgjogaoogiddaa
set_option linter.unusedVariables false
open Go.RowKit

theorem row_other2 {B n g : Nat} {v : Value} {e : TypeId} {z : Nat} {xs : List Value} {w : World} (h : w.ownsRow B e z v n xs) (j : Nat) (u : Value) (hg : v.ownBlock ≠ some g) : (w.setCell ⟨g, j, none⟩ u).ownsRow B e z v n xs :=
  ⟨h.1, h.2.imp id fun ⟨g', cap, cur, a, b, c, r⟩ => ⟨g', cap, cur, a, b, (Below.heap_setCell w ⟨g, j, none⟩ u g' fun e => hg (by rw [a, e]; rfl)).trans c, r⟩⟩
theorem int_bool_apart {B B' n n' : Nat} {v v' : Value} {xs xs' : List Value} {w : World} (h : w.ownsRow B 3 1 v n xs) (h' : w.ownsRow B' 4 1 v' n' xs') : ∀ g, v.ownBlock = some g → v'.ownBlock ≠ some g := fun g e1 e2 => by
  rcases h.2 with ⟨rfl, _⟩ | ⟨g1, cap, cur, rfl, _, c, _⟩
  · cases e1
  · rcases h'.2 with ⟨rfl, _⟩ | ⟨g2, cap', cur', rfl, _, c', _⟩
    · cases e2
    · have e1 : g1 = g := Option.some.inj e1
      have e2 : g2 = g := Option.some.inj e2
      subst e1
      subst e2
      rw [c] at c'
      injection c' with c'
      injection c' with _ ht _
      exact absurd ht (by decide)
/-- both records, and the first one's lists, which are being written over -/
structure DS (B0 g1 B2 g2 : Nat) (w : World) (R : Rec) (vh vm vh' vm' : Value) (L : List Int) (M : List Bool) (wq : World) : Prop where
  r1 : RecAt g1 R.kind R.seq R.pos vh vm R.sum wq
  r2 : RecAt g2 R.kind R.seq R.pos vh' vm' R.sum wq
  h : wq.ownsRow B0 3 1 vh R.homes.length (L.map (Value.int .i64))
  m : wq.ownsRow B0 4 1 vm R.masked.length (M.map Value.bool)
  o : RecOwn B2 R vh' vm' wq
  hlt : ∀ k, vh.ownBlock = some k → k < g1
  mlt : ∀ k, vm.ownBlock = some k → k < g1
  ord : B0 ≤ g1 ∧ g1 < B2 ∧ B2 ≤ g2
  b : Below B0 w wq
section
variable {B0 g1 B2 g2 g cap : Nat} {w : World} {R : Rec} {vh vm vh' vm' : Value} {L : List Int} {M : List Bool} {wq w' : World}
theorem DS.kept1 (h : DS B0 g1 B2 g2 w R vh vm vh' vm' L M wq) (b : Below wq.heap.size wq w') : DS B0 g1 B2 g2 w R vh vm vh' vm' L M w' :=
  ⟨h.r1.kept1 b, h.r2.kept1 b, row_kept h.h b, row_kept h.m b, h.o.kept b, h.hlt, h.mlt, h.ord, h.b.trans (b.mono (by have := h.r1.lt; have := h.ord.1; omega))⟩
theorem DS.home (h : DS B0 g1 B2 g2 w R (.slice (some ⟨g, 0, none⟩) R.homes.length cap) vm vh' vm' L M wq) (j : Nat) (x : Int) : DS B0 g1 B2 g2 w R (.slice (some ⟨g, 0, none⟩) R.homes.length cap) vm vh' vm' (L.set j x) M (wq.setCell ⟨g, j, none⟩ (.int .i64 x)) := by
  have hg := h.hlt g rfl
  obtain ⟨o1, o2, o3⟩ := h.ord
  have hB : B0 ≤ g := (h.h.lt g rfl).1
  refine ⟨h.r1.other (p := ⟨g, j, none⟩) (by show g ≠ g1; omega) _, h.r2.other (p := ⟨g, j, none⟩) (by show g ≠ g2; omega) _, ?_, row_other2 h.m j _ (int_bool_apart h.h h.m g rfl), ⟨ownsRow_setCell_below h.o.1 (show (⟨g, j, none⟩ : Addr).block < B2 by show g < B2; omega) _, ownsRow_setCell_below h.o.2 (show (⟨g, j, none⟩ : Addr).block < B2 by show g < B2; omega) _⟩, h.hlt, h.mlt, h.ord, h.b.setCell (p := ⟨g, j, none⟩) hB _⟩
  rw [List.map_set]
  exact (World.ownsRow.stored h.h j (.int .i64 x)).1
theorem DS.mark (h : DS B0 g1 B2 g2 w R vh (.slice (some ⟨g, 0, none⟩) R.masked.length cap) vh' vm' L M wq) (j : Nat) (x : Bool) : DS B0 g1 B2 g2 w R vh (.slice (some ⟨g, 0, none⟩) R.masked.length cap) vh' vm' L (M.set j x) (wq.setCell ⟨g, j, none⟩ (.bool x)) := by
  have hg := h.mlt g rfl
  obtain ⟨o1, o2, o3⟩ := h.ord
  have hB : B0 ≤ g := (h.m.lt g rfl).1
  refine ⟨h.r1.other (p := ⟨g, j, none⟩) (by show g ≠ g1; omega) _, h.r2.other (p := ⟨g, j, none⟩) (by show g ≠ g2; omega) _, row_other2 h.h j _ (fun e => int_bool_apart h.h h.m g e rfl), ?_, ⟨ownsRow_setCell_below h.o.1 (show (⟨g, j, none⟩ : Addr).block < B2 by show g < B2; omega) _, ownsRow_setCell_below h.o.2 (show (⟨g, j, none⟩ : Addr).block < B2 by show g < B2; omega) _⟩, h.hlt, h.mlt, h.ord, h.b.setCell (p := ⟨g, j, none⟩) hB _⟩
  rw [List.map_set]
  exact (World.ownsRow.stored h.m j (.bool x)).1
end
set_option maxRecDepth 100000 in
set_option maxHeartbeats 16000000 in
theorem decode_walk (s : ByteArray) (hs : s.size ≤ maxLen) (w : World) :
    Calls Try.prog 4 #[.string s] w fun e w' => e = .returned (.bool true) ∧ Below w.heap.size w w' := by
  have gh : Try.prog.stoodInHeld 27 = false := by kernel_rfl
  have mixed : Try.prog.follows .mixedOrders = true := by kernel_rfl
  obtain ⟨R, c, DA, DB⟩ := dec_both s hs
  have DA := Lib.hid DA
  have DB := Lib.hid DB
  have SM := Lib.hid fun vh vm vh' vm' w' (h2 : RecIn R vh vm w') (h1 : RecIn R vh' vm' w') => same_rec R vh vm vh' vm' w' h2 h1
  have AL := Lib.hid alive_any
  have t0 : (c == c) = true := by simp
  have t1 : (c != c) = false := by simp
  obtain ⟨kind, seq, pos, homes, masked, sum⟩ := R
  go_enter Try.func4, Try.ntmps4
  go_wp2_with fail
  refine (DA.out _).mono ?_; rintro e w1 ⟨vh, vm, rfl, ho, b⟩
  obtain ⟨ah, ch, rfl, a1, a2, a3⟩ := shape_of ho.1
  obtain ⟨am, cm, rfl, b1, b2, b3⟩ := shape_of ho.2
  have a2 : ch ≤ 9223372036854775807 := a2
  have b2 : cm ≤ 9223372036854775807 := b2
  obtain ⟨w2, hw2⟩ : ∃ w2, w1.alloc (.cells #[.int .i64 kind, .int .u64 (seq : Int), .int .i64 pos, .slice ah homes.length ch, .slice am masked.length cm, .int .u32 (sum : Int)] 27) = w2 := ⟨_, rfl⟩
  have hb2 : Below w.heap.size w w2 := by rw [← hw2]; exact balloc b _
  have hR2 : RecAt w1.heap.size kind seq pos (.slice ah homes.length ch) (.slice am masked.length cm) sum w2 := by rw [← hw2]; exact Blk.new _ _ w1
  have hO2 : RecOwn w.heap.size ⟨kind, seq, pos, homes, masked, sum⟩ (.slice ah homes.length ch) (.slice am masked.length cm) w2 := ho.kept (by rw [← hw2]; exact balloc1 _ _)
  have hs2 : w2.heap.size = w1.heap.size + 1 := by rw [← hw2]; exact size_alloc _ _
  have hlt1 : ∀ k, (Value.slice ah homes.length ch).ownBlock = some k → k < w1.heap.size := fun k hk => (ho.1.lt k hk).2
  have mlt1 : ∀ k, (Value.slice am masked.length cm).ownBlock = some k → k < w1.heap.size := fun k hk => (ho.2.lt k hk).2
  have hle1 : w.heap.size ≤ w1.heap.size := b.size
  have HX2 := Lib.hid (And.intro hb2 (And.intro hR2 (And.intro hO2 (And.intro hs2 (And.intro hlt1 (And.intro mlt1 hle1))))))
  have HW2 := Lib.hid hw2
  have HA3 := Lib.hid a3
  have HB3 := Lib.hid b3
  clear hw2 ho b hb2 hR2 hO2 hs2 hlt1 mlt1 hle1 a3 b3
  go_wp2_with fail
  rw [HW2.out]
  refine (DB.out _).mono ?_; rintro e w3 ⟨vh', vm', rfl, ho', b'⟩
  obtain ⟨ah', ch', rfl, -⟩ := shape_of ho'.1
  obtain ⟨am', cm', rfl, -⟩ := shape_of ho'.2
  obtain ⟨w4, hw4⟩ : ∃ w4, w3.alloc (.cells #[.int .i64 kind, .int .u64 (seq : Int), .int .i64 pos, .slice ah' homes.length ch', .slice am' masked.length cm', .int .u32 (sum : Int)] 27) = w4 := ⟨_, rfl⟩
  have hS4 : DS w.heap.size w1.heap.size w2.heap.size w3.heap.size w ⟨kind, seq, pos, homes, masked, sum⟩ (.slice ah homes.length ch) (.slice am masked.length cm) (.slice ah' homes.length ch') (.slice am' masked.length cm') homes masked w4 := by
    obtain ⟨hb2, hR2, hO2, hs2, hlt1, mlt1, hle1⟩ := HX2.out
    have b4 : Below w2.heap.size w2 w4 := by rw [← hw4]; exact balloc b' _
    have hO4 := hO2.kept b4
    exact ⟨hR2.kept1 b4, by rw [← hw4]; exact Blk.new _ _ w3, hO4.1, hO4.2, ho'.kept (by rw [← hw4]; exact balloc1 _ _), hlt1, mlt1, ⟨hle1, by omega, b'.size⟩, hb2.trans (b4.mono hb2.size)⟩
  have HS4 := Lib.hid hS4
  obtain ⟨x0, x1, x2, x3, x4, x5⟩ := rec_cells hS4.r1
  obtain ⟨y0, y1, y2, y3, y4, y5⟩ := rec_cells hS4.r2
  have S4 := Lib.hid (SM.out _ _ _ _ w4 (RecOwn.isIn ⟨hS4.h, hS4.m⟩) hS4.o.isIn)
  have HW4 := Lib.hid hw4
  clear hw4 ho' b' hS4 HX2
  go_upto_region 3 with fail
  rw [HW4.out]
  go_wp2_with fail
  refine S4.out.mono ?_; rintro e w5 ⟨rfl, b5⟩
  have hS5 := HS4.out.kept1 b5
  have HS5 := Lib.hid hS5
  clear b5 x0 x1 x2 x3 x4 x5 y0 y1 y2 y3 y4 y5 S4 HS4 hS5
  go_wp2
  go_loopw [7] (fun q wr => ∃ (k : Nat) (L : List Int), q = .int .i64 k ∧ k ≤ homes.length ∧ DS w.heap.size w1.heap.size w2.heap.size w3.heap.size w ⟨kind, seq, pos, homes, masked, sum⟩ (.slice ah homes.length ch) (.slice am masked.length cm) (.slice ah' homes.length ch') (.slice am' masked.length cm') L masked wr) (fun q _ => homes.length - (intOf q).toNat)
  case atStart => exact ⟨0, _, rfl, Nat.zero_le _, HS5.out⟩
  case round =>
    clear HS5
    obtain ⟨k, L, rfl, hk, hD⟩ := hrel
    obtain ⟨x0, x1, x2, x3, x4, x5⟩ := rec_cells hD.r1
    have HD := Lib.hid hD
    by_cases hlt : k < homes.length
    · obtain ⟨g, rfl, hg1, hg2⟩ := HA3.out (by omega)
      have hl : k < L.length := by have := hD.h.1; simp at this; omega
      have q1 : wr.cell? ⟨g, k, none⟩ = some (Value.int .i64 L[k]) := (hD.h.cellAt k (by show k < homes.length * 1; omega)).trans (by rw [List.getElem?_map, List.getElem?_eq_getElem hl]; rfl)
      have q2 := hD.h.frozenAt k
      have HN := Lib.hid (hD.home k (-9))
      generalize L[k] = u at *
      clear hD x0 x1 x2 x4 x5 HD
      go_wp2
      exact ⟨⟨k + 1, _, by go_num, by omega, HN.out⟩, by simp [intOf]; omega⟩
    · obtain rfl : k = homes.length := by omega
      clear hD
      go_wp2
      go_loopw [8] (fun q wr => ∃ (j : Nat) (M : List Bool), q = .int .i64 j ∧ j ≤ masked.length ∧ DS w.heap.size w1.heap.size w2.heap.size w3.heap.size w ⟨kind, seq, pos, homes, masked, sum⟩ (.slice ah homes.length ch) (.slice am masked.length cm) (.slice ah' homes.length ch') (.slice am' masked.length cm') L M wr) (fun q _ => masked.length - (intOf q).toNat)
      case atStart => exact ⟨0, _, rfl, Nat.zero_le _, HD.out⟩
      case round =>
        clear HD x0 x1 x2 x3 x4 x5
        obtain ⟨j, M, rfl, hj, hD⟩ := hrel
        obtain ⟨x0, x1, x2, x3, x4, x5⟩ := rec_cells hD.r1
        have HD := Lib.hid hD
        by_cases hlt : j < masked.length
        · obtain ⟨g, rfl, hg1, hg2⟩ := HB3.out (by omega)
          have hl : j < M.length := by have := hD.m.1; simp at this; omega
          have q1 : wr.cell? ⟨g, j, none⟩ = some (Value.bool M[j]) := (hD.m.cellAt j (by show j < masked.length * 1; omega)).trans (by rw [List.getElem?_map, List.getElem?_eq_getElem hl]; rfl)
          have q2 := hD.m.frozenAt j
          have HN := Lib.hid ((hD.kept1 (Below.refl _ _).drew).mark j (!M[j]))
          generalize M[j] = u at *
          clear hD x0 x1 x2 x3 x5 HD
          go_wp2
          go_still_tail 10, (by kernel_rfl)
          change wpList _ _ _ _ _ wr.drew
          have q1 : wr.drew.cell? ⟨g, j, none⟩ = some (.bool u) := q1
          have q2 : wr.drew.frozen? ⟨g, j, none⟩ = false := q2
          go_wp2
          exact ⟨⟨j + 1, _, by go_num, by omega, HN.out⟩, by simp [intOf]; omega⟩
        · obtain rfl : j = masked.length := by omega
          clear hD
          go_wp2_with fail
          refine (DA.out _).mono ?_; rintro e w7 ⟨vhx, vmx, rfl, hox, bx⟩
          obtain ⟨ahx, chx, rfl, -⟩ := shape_of hox.1
          obtain ⟨amx, cmx, rfl, -⟩ := shape_of hox.2
          obtain ⟨w8, hw8⟩ : ∃ w8, w7.alloc (.cells #[.int .i64 kind, .int .u64 (seq : Int), .int .i64 pos, .slice ahx homes.length chx, .slice amx masked.length cmx, .int .u32 (sum : Int)] 27) = w8 := ⟨_, rfl⟩
          have b78 : Below w7.heap.size w7 w8 := by rw [← hw8]; exact balloc1 w7 _
          have hD8 := (HD.out.kept1 bx).kept1 b78
          have hR8 : RecAt w7.heap.size kind seq pos (.slice ahx homes.length chx) (.slice amx masked.length cmx) sum w8 := by rw [← hw8]; exact Blk.new _ _ w7
          have S8 := Lib.hid (SM.out _ _ _ _ w8 (hox.isIn.kept b78) hD8.o.isIn)
          obtain ⟨z0, z1, z2, z3, z4, z5⟩ := rec_cells hR8
          obtain ⟨y0, y1, y2, y3, y4, y5⟩ := rec_cells hD8.r2
          have HB8 := Lib.hid hD8.b
          have HW8 := Lib.hid hw8
          clear hw8 hox bx b78 hD8 hR8 HD x0 x1 x2 x3 x4 x5
          go_upto_region 14 with fail
          rw [HW8.out]
          go_wp2_with fail
          refine S8.out.mono ?_; rintro e w9 ⟨rfl, b9⟩
          have hb9 := bnext HB8.out b9
          clear z0 z1 z2 z3 z4 z5 y0 y1 y2 y3 y4 y5 S8 HB8 b9
          go_wp2_with fail
          refine (AL.out _).mono ?_; rintro e w10 ⟨rfl, b10⟩
          have hb10 := bnext hb9 b10
          clear hb9 b10
          go_wp2
          go_ret
          exact ⟨rfl, hb10⟩
end Go.Proofs.Ytfgjogaoogiddaa

/- The document's Lengths, Largest, Count. -/
import Derived.Test.YtmdkekbhondkbaaRRef2
import Derived.Test.YtmdkekbhondkbaaRCard
namespace Go.Proofs.Ytmdkekbhondkbaa
set_option linter.unusedVariables false
open Go.RowKit Go.Shelf

theorem wpList_appi {ops : Array Oper} {rest : List Oper} {o : Oper} {a : Act} {Q : Exit → Act → World → Prop} {w : World} (hgd : o.guard = none) (s x : Operand)
    (ho : o.op = .call { callee := .builtin .append, args := #[s, x], argTypes := #[24, 24] })
    (base : Nat) (v : Value) (l : List Int) (hs : a.eval s = v) (hown : IntsAt base v l w)
    (ad : Addr) (m c : Nat) (news : List Int) (hm : news.length = m) (hx : a.eval x = .slice (some ad) m c) (hnews : ∀ j (h : j < news.length), w.cell? (ad.add j) = some (.int .i64 news[j]))
    (hlen : l.length + m ≤ 4000000) (hbase : base ≤ w.heap.size)
    (h : ∀ v' w', IntsAt base v' (l ++ news) w' → Below base w w' → wpList Try.prog ops Q rest (a.put o.dst v') w') : wpList Try.prog ops Q (o :: rest) a w := by
  obtain ⟨i0, hi, hz0, hz1, hz2⟩ := info_parts info_int
  refine wpList_append_own (w := w) hgd s x 24 ho base 3 i0 (.int .i64 0) 1 8 Try.underlying24 hi hz0 hz1 hz2 rfl (by decide) v _ _ hs hown ad m c (news.map (Value.int .i64)) hx (by simp [hm]) (fun j u hj => ?_) (fun u hu => ?_) (by unfold maxLen; omega) (by omega) hbase ?_
  · obtain ⟨hj1, hj2⟩ := List.getElem?_eq_some_iff.1 hj
    rw [List.length_map] at hj1
    rw [List.getElem_map] at hj2
    rw [← hj2]; exact hnews j hj1
  · obtain ⟨y, _, rfl⟩ := List.mem_map.1 hu; rfl
  · intro v' w' h1 h2 _
    refine h v' w' ?_ (below_of_row hown h2 hbase)
    show w'.ownsRow _ _ _ _ (l ++ news).length ((l ++ news).map _)
    rw [List.length_append, List.map_append, hm]; exact h1
theorem wpList_appir {ops : Array Oper} {rest : List Oper} {o : Oper} {a : Act} {Q : Exit → Act → World → Prop} {w : World} (hgd : o.guard = none) (s x : Operand)
    (ho : o.op = .call { callee := .builtin .append, args := #[s, x], argTypes := #[24, 24] })
    (base : Nat) (v : Value) (l : List Int) (hs : a.eval s = v) (hown : IntsAt base v l w)
    (ad : Addr) (m c : Nat) (news : List Int) (hm : news.length = m) (hx : a.eval x = .slice (some ad) m c) (hnews : ∀ j (h : j < news.length), w.cell? (ad.add j) = some (.int .i64 news[j]))
    (R : List Int) (hR : Hid (l ++ news = R)) (hlen : l.length + m ≤ 4000000) (hbase : base ≤ w.heap.size)
    (h : ∀ v' w', IntsAt base v' R w' → Below base w w' → wpList Try.prog ops Q rest (a.put o.dst v') w') : wpList Try.prog ops Q (o :: rest) a w := by
  have hR := hR.out
  subst hR
  exact wpList_appi hgd s x ho base v l hs hown ad m c news hm hx hnews hlen hbase h
theorem new_at (w : World) (a : Int) : ∀ (j : Nat) (h : j < [a].length), (w.alloc (.cells #[.int .i64 a] 3)).cell? ((⟨w.heap.size, 0, none⟩ : Addr).add j) = some (.int .i64 [a][j]) := fun j h => by
  have h0 : j = 0 := by simpa using h
  subst h0; exact new_int w a 0 _ rfl
theorem add_at (g o j : Nat) : (⟨g, o, none⟩ : Addr).add j = ⟨g, o + j, none⟩ := by unfold Addr.add; split <;> simp_all

/-- a number, put into rising ones behind all that are no more -/
theorem ins_lens (m : List (Int × Int)) (k : Nat) (h : k < m.length) (L : List Int) (hL : L = lensR (m.take k)) (j : Nat) (h1 : ∀ t (ht : t < L.length), t < j → L[t] ≤ m[k].2) (h2 : ∀ h : j < L.length, m[k].2 < L[j]) :
    L.take j ++ [m[k].2] ++ L.drop j = lensR (m.take (k + 1)) := by
  have hs : L.Pairwise (· ≤ ·) := by rw [hL]; exact lens_sorted _
  have hp : L.Perm ((m.take k).map (·.2)) := by rw [hL]; exact lens_perm _
  have hsp : ∀ a ∈ L.take j, ∀ b ∈ L.drop j, a ≤ b := by
    have := hs; rw [← List.take_append_drop j L] at this; exact (List.pairwise_append.1 this).2.2
  have ha : ∀ a ∈ L.take j, a ≤ m[k].2 := fun a ha => by
    obtain ⟨t, ht, rfl⟩ := List.getElem_of_mem ha
    rw [List.length_take] at ht
    rw [List.getElem_take]; exact h1 t (by omega) (by omega)
  have hb : ∀ b ∈ L.drop j, m[k].2 ≤ b := fun b hb => by
    obtain ⟨t, ht, rfl⟩ := List.getElem_of_mem hb
    rw [List.length_drop] at ht
    rw [List.getElem_drop]
    have hj : j < L.length := by omega
    rcases Nat.eq_zero_or_pos t with h0 | h0
    · subst h0; exact Int.le_of_lt (h2 hj)
    · have := (List.pairwise_iff_getElem.1 hs) j (j + t) hj (by omega) (by omega)
      exact Int.le_trans (Int.le_of_lt (h2 hj)) this
  refine List.Perm.eq_of_pairwise (le := (· ≤ ·)) (fun a b _ _ h1 h2 => Int.le_antisymm h1 h2) ?_ (lens_sorted _) ?_
  · rw [List.append_assoc]
    refine List.pairwise_append.2 ⟨hs.take, List.pairwise_append.2 ⟨by simp, hs.drop, fun a h1 b h2 => ?_⟩, fun a h1 b h2 => ?_⟩
    · rw [List.mem_singleton] at h1; subst h1; exact hb b h2
    · rcases List.mem_append.1 h2 with h2 | h2
      · rw [List.mem_singleton] at h2; subst h2; exact ha a h1
      · exact hsp a h1 b h2
  · refine List.Perm.trans ?_ (lens_perm _).symm
    rw [List.take_succ_eq_append_getElem h, List.map_append]
    have e : L.take j ++ [m[k].2] ++ L.drop j = L.take j ++ m[k].2 :: L.drop j := by simp
    rw [e]
    refine List.perm_middle.trans ?_
    rw [List.take_append_drop]
    exact (List.Perm.cons _ hp).trans (List.perm_append_singleton _ _).symm

theorem row_front {B g cap n : Nat} {L : List Int} {w : World} (h : w.ownsRow B 3 1 (.slice (some ⟨g, 0, none⟩) n cap) n (L.map (Value.int .i64))) (j : Nat) :
    ∀ t (ht : t < (L.take j).length), w.cell? ((⟨g, 0, none⟩ : Addr).add t) = some (.int .i64 (L.take j)[t]) := fun t ht => by
  rw [List.length_take] at ht
  rw [add_at, Nat.zero_add, List.getElem_take]; exact int_cell h t (by omega)
theorem row_back {B g cap n : Nat} {L : List Int} {w : World} (h : w.ownsRow B 3 1 (.slice (some ⟨g, 0, none⟩) n cap) n (L.map (Value.int .i64))) (j : Nat) (A : Addr) (hA : j < L.length → A = ⟨g, j, none⟩) :
    ∀ t (ht : t < (L.drop j).length), w.cell? (A.add t) = some (.int .i64 (L.drop j)[t]) := fun t ht => by
  rw [List.length_drop] at ht
  rw [hA (by omega), add_at, List.getElem_drop]; exact int_cell h _ (by omega)

set_option maxHeartbeats 8000000 in
theorem rlengths_any (l : List (Int × Int)) (hf : fitR l) (hl : l.length ≤ 1000) (v : Value) (w : World) (hv : RunsIn v l w) :
    Calls Try.prog 15 #[v] w fun e w' => ∃ v', e = .returned v' ∧ IntsAt w.heap.size v' (lensR (normR l)) w' ∧ Below w.heap.size w w' := by
  have N := Lib.hid (rnorm_any l hf (by omega) v w hv)
  have mixed : Try.prog.follows .mixedOrders = true := by kernel_rfl
  obtain ⟨i0, hi, hz0, hz1, hz2⟩ := info_parts info_int
  have hlen := norm_len l
  clear hv
  generalize normR l = m at *
  go_enter Try.func15, Try.ntmps15
  go_wp2_with fail
  refine N.out.mono ?_; rintro e w1 ⟨vm, rfl, hm, hb1⟩
  obtain ⟨adm, capm, rfl, m1, m2, m3⟩ := shape_of hm
  have m2 : capm ≤ 9223372036854775807 := m2
  clear N
  go_wp2
  go_loopw [3, 5] (fun vo p wr => ∃ (k : Nat) (L : List Int), p = .int .i64 k ∧ k ≤ m.length ∧ Hid (L = lensR (m.take k)) ∧ L.length = k ∧ (k = 0 → vo = .slice none 0 0) ∧ IntsAt w1.heap.size vo L wr ∧ Below w1.heap.size w1 wr) (fun _ p _ => m.length - (intOf p).toNat)
  case atStart => exact ⟨0, [], rfl, Nat.zero_le _, Lib.hid (by simp [lensR]), rfl, fun _ => rfl, World.ownsRow_nil _ _ _ _, Below.refl _ _⟩
  case round =>
    obtain ⟨k, L, rfl, hk, HL, hLk, hv0, hown, hb⟩ := hrel
    by_cases hlt : k < m.length
    · obtain ⟨g, rfl, hgB, hg⟩ := m3 (by omega)
      obtain ⟨c1, c2⟩ := run_cells (row_kept hm hb) k hlt
      have HI := Lib.hid (ins_lens m k hlt L HL.out)
      have hgr : g < wr.heap.size := Nat.lt_of_lt_of_le hg hb.size
      generalize m[k].2 = x at *
      generalize m[k].1 = x1 at *
      rcases Nat.eq_zero_or_pos k with h0 | h0
      · have hLnil : L = [] := List.length_eq_zero_iff.1 (by omega)
        subst hLnil
        subst h0
        have hv1 := hv0 rfl
        subst hv1
        have HR : Hid ([x] = lensR (m.take (0 + 1))) := Lib.hid (by simpa using HI.out 0 (fun t ht => by simp at ht) (fun h => by simp at h))
        clear hm hv0 HL hLk hown HI
        go_wp2
        go_loopw [6] (fun q wr => q = .int .i64 0 ∧ Below w1.heap.size w1 wr ∧ wr.cell? ⟨g, 0 * 2 + 1, none⟩ = some (.int .i64 x)) (fun q _ => 0)
        case atStart => exact ⟨rfl, hb, c2⟩
        case round =>
          obtain ⟨rfl, hb, c2⟩ := hrel
          go_wp2
          go_quiet (fail)
          go_wp2_with (at_builtin; refine wpList_appi rfl _ _ rfl wr.heap.size _ [] rfl (World.ownsRow_nil _ _ _ _) ⟨wr.heap.size, 0, none⟩ 1 1 [x] rfl rfl (new_at (wr.drewN nq) x) (by simp) (by rw [size_alloc]; exact Nat.le_succ _) ?_)
          intro v3 w3 h3 b3
          have hb3 := (balloc' (below_drewN hb nq) hb.size (.cells #[.int .i64 x] 3)).trans (b3.mono hb.size)
          clear b3
          go_wp2_with (at_builtin; refine wpList_append_own_none rfl _ _ 24 rfl wr.heap.size 3 i0 1 Try.underlying24 hi _ _ _ rfl h3 rfl ?_)
          have h4 := row_down hb.size h3
          go_wp2
          exact ⟨⟨0 + 1, [x], by go_num, by omega, HR, rfl, fun h => by omega, h4, hb3⟩, by simp [intOf]; omega⟩
      · obtain ⟨ad, cap, rfl, p1, p2, p3⟩ := shape_of hown
        obtain ⟨go, rfl, hgo, hgo2⟩ := p3 (by omega)
        have p2 : cap ≤ 9223372036854775807 := p2
        clear hv0 p3 c1
        subst hLk
        go_wp2
        go_loopw [6] (fun q wr => ∃ j : Nat, q = .int .i64 j ∧ j ≤ L.length ∧ Hid (∀ t (ht : t < L.length), t < j → L[t] ≤ x) ∧ IntsAt w1.heap.size (.slice (some ⟨go, 0, none⟩) L.length cap) L wr ∧ Below w1.heap.size w1 wr ∧ wr.cell? ⟨g, L.length * 2 + 1, none⟩ = some (.int .i64 x)) (fun q _ => L.length - (intOf q).toNat)
        case atStart => exact ⟨0, rfl, Nat.zero_le _, Lib.hid (fun t ht h => by omega), hown, hb, c2⟩
        case round =>
          clear hown hb c2
          obtain ⟨j, rfl, hj, HJ, hown, hb, c2⟩ := hrel
          have hgr : g < wr.heap.size := Nat.lt_of_lt_of_le hg hb.size
          by_cases hjl : j < L.length
          · have q1 := int_cell hown j hjl
            have e1 : ∀ q, (wr.drewN q).cell? ⟨go, j, none⟩ = some (.int .i64 L[j]) := fun _ => q1
            have e2 : ∀ q, (wr.drewN q).cell? ⟨g, L.length * 2 + 1, none⟩ = some (.int .i64 x) := fun _ => c2
            have dj : decide ((j : Int) < (L.length : Int)) = true := decide_eq_true (by omega)
            by_cases hle : L[j] ≤ x
            · have HJ2 : Hid (∀ t (ht : t < L.length), t < j + 1 → L[t] ≤ x) := Lib.hid fun t ht h => by
                by_cases e : t = j
                · subst e; exact hle
                · exact HJ.out t ht (by omega)
              have dx : decide (L[j] ≤ x) = true := decide_eq_true hle
              generalize L[j] = y at *
              clear HI HJ hm m3
              go_wp2
              go_quiet (fail)
              go_wp2
              exact ⟨⟨j + 1, by go_num, by omega, HJ2, hown, below_drewN hb _, c2⟩, by simp [intOf]; omega⟩
            · have HR : Hid (L.take j ++ [x] ++ L.drop j = lensR (m.take (L.length + 1))) := Lib.hid (HI.out j (fun t ht h => HJ.out t ht h) (fun h => by omega))
              have dx : decide (L[j] ≤ x) = false := decide_eq_false hle
              generalize L[j] = y at *
              clear HI HJ
              go_wp2
              go_quiet (fail)
              go_wp2_with (at_builtin; refine wpList_appi rfl _ _ rfl wr.heap.size _ [] rfl (World.ownsRow_nil _ _ _ _) ⟨go, 0, none⟩ j cap (L.take j) (by simp; omega) rfl (row_front (w := wr.drewN nq) hown j) (by simp; omega) (Nat.le_refl _) ?_)
              intro v2 w2 h2 b2
              have c2b : w2.cell? ⟨g, L.length * 2 + 1, none⟩ = _ := (b2.cell (p := ⟨g, L.length * 2 + 1, none⟩) hgr).trans c2
              have hs2 := b2.size
              have b2a := balloc' b2 hs2 (.cells #[.int .i64 x] 3)
              have hsa := b2a.size
              go_wp2_with (at_builtin; refine wpList_appi rfl _ _ rfl wr.heap.size _ _ rfl (h2.alloc _) ⟨w2.heap.size, 0, none⟩ 1 1 [x] rfl rfl (new_at w2 x) (by simp; omega) hsa ?_)
              intro v3 w3 h3 b3
              have b23 := b2a.trans b3
              have hown3 := row_kept (w := wr.drewN nq) hown b23
              have hs3 := b23.size
              obtain ⟨R, hR⟩ : ∃ R, R = lensR (m.take (L.length + 1)) := ⟨_, rfl⟩
              have hR2 := Lib.hid hR
              have HR2 : Hid (L.take j ++ [x] ++ L.drop j = R) := Lib.hid (HR.out.trans hR.symm)
              have hRl : R.length = L.length + 1 := by rw [← HR2.out]; simp; omega
              clear h2 b2 c2b hs2 b2a hsa b3 hR HR
              rcases Nat.lt_or_ge j cap with hjc | hjc
              · have hjc2 : ¬ cap = j := by omega
                go_wp2_with (at_builtin; refine wpList_appir rfl _ _ rfl wr.heap.size _ _ rfl h3 ⟨go, j, none⟩ (L.length - j) (cap - j) (L.drop j) (by simp) rfl (row_back hown3 j _ fun _ => rfl) R HR2 (by simp; omega) hs3 ?_)
                intro v4 w4 h4 b4
                have hb4 := (below_drewN hb nq).trans ((b23.trans b4).mono hb.size)
                have h5 := row_down hb.size h4
                clear h3 h4 b4 b23 hown3
                go_wp2
                exact ⟨⟨L.length + 1, R, by go_num, by omega, hR2, hRl, fun h => by omega, h5, hb4⟩, by simp [intOf]; omega⟩
              · obtain rfl : j = L.length := by omega
                obtain rfl : cap = L.length := by omega
                go_wp2_with (at_builtin; refine wpList_appir rfl _ _ rfl wr.heap.size _ _ rfl h3 ⟨go, 0, none⟩ 0 0 [] rfl rfl (fun j h => absurd h (Nat.not_lt_zero _)) R (Lib.hid (by have := HR2.out; simpa using this)) (by simp; omega) hs3 ?_)
                intro v4 w4 h4 b4
                have hb4 := (below_drewN hb nq).trans ((b23.trans b4).mono hb.size)
                have h5 := row_down hb.size h4
                clear h3 h4 b4 b23 hown3
                go_wp2
                exact ⟨⟨L.length + 1, R, by go_num, by omega, hR2, hRl, fun h => by omega, h5, hb4⟩, by simp [intOf]; omega⟩
          · have hje : j = L.length := by omega
            have HR : Hid (L.take j ++ [x] ++ L.drop j = lensR (m.take (L.length + 1))) := Lib.hid (HI.out j (fun t ht _ => HJ.out t ht (by omega)) (fun h => absurd h hjl))
            have dj : decide ((j : Int) < (L.length : Int)) = false := decide_eq_false (by omega)
            have dj2 : decide (j < L.length) = false := decide_eq_false (by omega)
            clear HI HJ hje hjl
            go_wp2
            go_quiet (fail)
            go_wp2_with (at_builtin; refine wpList_appi rfl _ _ rfl wr.heap.size _ [] rfl (World.ownsRow_nil _ _ _ _) ⟨go, 0, none⟩ j cap (L.take j) (by simp; omega) rfl (row_front (w := wr.drewN nq) hown j) (by simp; omega) (Nat.le_refl _) ?_)
            intro v2 w2 h2 b2
            have c2b : w2.cell? ⟨g, L.length * 2 + 1, none⟩ = _ := (b2.cell (p := ⟨g, L.length * 2 + 1, none⟩) hgr).trans c2
            have hs2 := b2.size
            have b2a := balloc' b2 hs2 (.cells #[.int .i64 x] 3)
            have hsa := b2a.size
            go_wp2_with (at_builtin; refine wpList_appi rfl _ _ rfl wr.heap.size _ _ rfl (h2.alloc _) ⟨w2.heap.size, 0, none⟩ 1 1 [x] rfl rfl (new_at w2 x) (by simp; omega) hsa ?_)
            intro v3 w3 h3 b3
            have b23 := b2a.trans b3
            have hown3 := row_kept (w := wr.drewN nq) hown b23
            have hs3 := b23.size
            obtain ⟨R, hR⟩ : ∃ R, R = lensR (m.take (L.length + 1)) := ⟨_, rfl⟩
            have hR2 := Lib.hid hR
            have HR2 : Hid (L.take j ++ [x] ++ L.drop j = R) := Lib.hid (HR.out.trans hR.symm)
            have hRl : R.length = L.length + 1 := by rw [← HR2.out]; simp; omega
            clear h2 b2 c2b hs2 b2a hsa b3 hR HR
            rcases Nat.lt_or_ge j cap with hjc | hjc
            · have hjc2 : ¬ cap = j := by omega
              go_wp2_with (at_builtin; refine wpList_appir rfl _ _ rfl wr.heap.size _ _ rfl h3 ⟨go, j, none⟩ (L.length - j) (cap - j) (L.drop j) (by simp) rfl (row_back hown3 j _ fun _ => rfl) R HR2 (by simp; omega) hs3 ?_)
              intro v4 w4 h4 b4
              have hb4 := (below_drewN hb nq).trans ((b23.trans b4).mono hb.size)
              have h5 := row_down hb.size h4
              clear h3 h4 b4 b23 hown3
              go_wp2
              exact ⟨⟨L.length + 1, R, by go_num, by omega, hR2, hRl, fun h => by omega, h5, hb4⟩, by simp [intOf]; omega⟩
            · obtain rfl : j = L.length := by omega
              obtain rfl : cap = L.length := by omega
              go_wp2_with (at_builtin; refine wpList_appir rfl _ _ rfl wr.heap.size _ _ rfl h3 ⟨go, 0, none⟩ 0 0 [] rfl rfl (fun j h => absurd h (Nat.not_lt_zero _)) R (Lib.hid (by have := HR2.out; simpa using this)) (by simp; omega) hs3 ?_)
              intro v4 w4 h4 b4
              have hb4 := (below_drewN hb nq).trans ((b23.trans b4).mono hb.size)
              have h5 := row_down hb.size h4
              clear h3 h4 b4 b23 hown3
              go_wp2
              exact ⟨⟨L.length + 1, R, by go_num, by omega, hR2, hRl, fun h => by omega, h5, hb4⟩, by simp [intOf]; omega⟩
    · obtain rfl : k = m.length := by omega
      have HE := HL.out
      rw [List.take_length] at HE
      subst HE
      have h3 := row_down hb1.size hown
      have hb3 := bnext hb1 hb
      clear hm m3 hown hv0
      go_wp2
      go_ret
      exact ⟨_, rfl, h3, hb3⟩
end Go.Proofs.Ytmdkekbhondkbaa

/- Normal, Union, Complement. -/
import Derived.Test.YtgcbfiecgiijkaaRUnion
namespace Go.Proofs.Ytgcbfiecgiijkaa
set_option linter.unusedVariables false
open Go.RowKit Go.Shelf

theorem sorts_none (ad : Option Addr) (cap : Nat) (f : Value) (w : World) :
    Calls Try.prog 54 #[.slice ad 0 cap, f] w fun e w' => e = .returned (.tuple #[]) ∧ w' = w := AnyF.slices_SortFunc_none Try.sortRun ad cap f w
theorem sorts_all : SortsR := by
  intro l B v W hB hl h
  obtain ⟨ad, cap, rfl, h1, h2, h3⟩ := shape_of h
  by_cases h0 : l.length = 0
  · have hnil : l = [] := List.length_eq_zero_iff.1 h0
    subst hnil
    refine (sorts_none ad cap _ W).mono ?_
    rintro e w' ⟨rfl, rfl⟩
    exact ⟨rfl, [], rfl, fun r => Iff.rfl, fun i j _ hj => by simp at hj, h, Below.refl _ _⟩
  · obtain ⟨g, rfl, hg, hlt⟩ := h3 (by omega)
    exact sorts_some l B g cap W hg hlt hl h
theorem norm_any (l : List (Int × Int)) (hf : fitR l) (hl : l.length ≤ 1000000) (v : Value) (w : World) (hv : RunsIn v l w) :
    Calls Try.prog 40 #[v] w fun e w' => ∃ v', e = .returned v' ∧ RunsAt w.heap.size v' (normR l) w' ∧ Below w.heap.size w w' := normal_any sorts_all l hf hl v w hv

theorem fit_append {a b : List (Int × Int)} (ha : fitR a) (hb : fitR b) : fitR (a ++ b) := fun r hr => (List.mem_append.1 hr).elim (ha r) (hb r)
theorem fit_norm (l : List (Int × Int)) : fitR (normR l) := (norm_norm l).fit

set_option maxRecDepth 100000 in
set_option maxHeartbeats 2000000 in
theorem union_any (a b : List (Int × Int)) (hfa : fitR a) (hfb : fitR b) (hl : a.length + b.length ≤ 1000000) (va vb : Value) (w : World) (ha : RunsIn va a w) (hb : RunsIn vb b w) :
    Calls Try.prog 32 #[va, vb] w fun e w' => ∃ v', e = .returned v' ∧ RunsAt w.heap.size v' (unionR a b) w' ∧ Below w.heap.size w w' := by
  obtain ⟨ada, capa, rfl, -⟩ := id ha
  obtain ⟨adb, capb, rfl, -⟩ := id hb
  have hb0 := balloc (Below.refl w.heap.size w) (.cells #[.slice ada a.length capa, .slice adb b.length capb] 26)
  have C := concat_any a b (by omega) _ _ w.heap.size (w.alloc (.cells #[.slice ada a.length capa, .slice adb b.length capb] 26)) (by rw [size_alloc]; omega) (by rw [World.cell?_alloc_mark]; rfl) (by rw [World.cell?_alloc_mark]; rfl) (runsIn_kept ha hb0) (runsIn_kept hb hb0)
  have C := Lib.hid C
  have N := Lib.hid (fun v W hv => norm_any (a ++ b) (fit_append hfa hfb) (by simp; omega) v W hv)
  clear ha hb
  go_enter Try.func32, Try.ntmps32
  go_wp2_with fail
  refine C.out.mono ?_; rintro e w1 ⟨v, rfl, hown, hb1⟩
  have hbw := bnext hb0 hb1
  go_wp2_with fail
  refine (N.out _ _ (runsAt_in hown)).mono ?_; rintro e w2 ⟨v2, rfl, hown2, hb2⟩
  have hbw2 := bnext hbw hb2
  clear hown hb1 hb2 N C hb0
  go_wp2
  go_ret
  exact ⟨_, rfl, row_down hbw.size hown2, hbw2⟩

theorem between_below (a b : Int) (h : I64 (b - a)) (W : World) :
    Calls Try.prog 51 #[.int .i64 a, .int .i64 b] W fun e w' => e = .returned (.agg #[.int .i64 a, .int .i64 (b - a)]) ∧ Below W.heap.size W w' :=
  (between_any a b h W).mono fun e w' ⟨he, hw⟩ => ⟨he, by rw [hw]; exact (Below.refl _ _).alloc (Nat.le_refl _) _⟩
theorem end_below (a b : Int) (h : I64 (a + b)) (W : World) :
    Calls Try.prog 50 #[.agg #[.int .i64 a, .int .i64 b]] W fun e w' => e = .returned (.int .i64 (a + b)) ∧ Below W.heap.size W w' :=
  (end_any a b h W).mono fun e w' ⟨he, hw⟩ => ⟨he, by rw [hw]; exact (Below.refl _ _).alloc (Nat.le_refl _) _⟩
theorem gaps_nil {n at_ : Int} : gapsGo n at_ [] = if at_ < n then [(at_, n - at_)] else [] := rfl
theorem gaps_stop {n at_ : Int} {r : Int × Int} {l : List (Int × Int)} (h : n ≤ r.1) : gapsGo n at_ (r :: l) = if at_ < n then [(at_, n - at_)] else [] := by unfold gapsGo; rw [if_pos h]
theorem gaps_on {n at_ : Int} {r : Int × Int} {l : List (Int × Int)} (h : ¬ n ≤ r.1) : gapsGo n at_ (r :: l) = (if at_ < r.1 then [(at_, r.1 - at_)] else []) ++ gapsGo n (r.1 + r.2) l := by conv => lhs; unfold gapsGo; rw [if_neg h]

/-- runs that are put behind a row of the call's own: what else lies there stays -/
theorem wpList_appg {ops : Array Oper} {rest : List Oper} {o : Oper} {a : Act} {Q : Exit → Act → World → Prop} {w : World} (hgd : o.guard = none) (s x : Operand)
    (ho : o.op = .call { callee := .builtin .append, args := #[s, x], argTypes := #[26, 26] })
    (base : Nat) (v : Value) (l : List (Int × Int)) (hs : a.eval s = v) (hown : RunsAt base v l w)
    (ad : Addr) (c : Nat) (r : Int × Int) (hx : a.eval x = .slice (some ad) 1 c) (hnews : ∀ j u, (cellsR [r])[j]? = some u → w.cell? (ad.add j) = some u)
    (hlen : l.length ≤ 3000000) (hbase : base ≤ w.heap.size)
    (h : ∀ v' w', RunsAt base v' (l ++ [r]) w' → w.grownBy w' v.ownBlock → wpList Try.prog ops Q rest (a.put o.dst v') w') : wpList Try.prog ops Q (o :: rest) a w := by
  obtain ⟨i0, hi, hz0, hz1, hz2⟩ := info_parts info_run
  refine wpList_append_own w hgd s x 26 ho base 32 i0 (.agg #[.int .i64 0, .int .i64 0]) 2 16 Try.underlying26 hi hz0 hz1 hz2 rfl (by decide) v _ _ hs hown ad 1 c (cellsR [r]) hx rfl hnews (one_cells _ _) (by unfold maxLen; omega) (by omega) hbase ?_
  intro v' w' h1 h2 _
  refine h v' w' ?_ h2
  show w'.ownsRow _ _ _ _ (l ++ [r]).length (cellsR (l ++ [r]))
  rw [List.length_append, cellsR_append]; exact h1
theorem cell_grownBy {w w' : World} {row : Option Nat} {a : Addr} {v : Value} (hg : w.grownBy w' row) (hb : a.block < w.heap.size) (hne : some a.block ≠ row) (h : w.cell? a = some v) : w'.cell? a = some v :=
  (World.cell?_of_block (hg.block a.block hb hne)).trans h
set_option maxRecDepth 100000 in
set_option maxHeartbeats 4000000 in
theorem compl_any (l : List (Int × Int)) (hf : fitR l) (hl : l.length ≤ 500000) (n : Int) (hn : I64 n) (v : Value) (w : World) (hv : RunsIn v l w) :
    Calls Try.prog 68 #[v, .int .i64 n] w fun e w' => ∃ v', e = .returned v' ∧ RunsAt w.heap.size v' (complR l n) w' ∧ Below w.heap.size w w' := by
  obtain ⟨hn1, hn2⟩ := hn
  have N := Lib.hid (norm_any l hf (by omega) v w hv)
  have HG := Lib.hid (compl_gaps l hn2)
  have hok : ∀ r ∈ normR l, okR r := fun r hr => ((norm_norm l).mem r hr).1
  have hlen := norm_len l
  clear hv
  generalize normR l = m at *
  generalize complR l n = R at *
  go_enter Try.func68, Try.ntmps68
  go_wp2_with fail
  refine N.out.mono ?_; rintro e w1 ⟨vm, rfl, hm, hb1⟩
  obtain ⟨adm, capm, rfl, m1, m2, m3⟩ := shape_of hm
  have m2 : capm ≤ 9223372036854775807 := m2
  have hm2 : m.length ≤ 500000 := by omega
  clear N
  go_wp2
  go_loopw [5, 6, 12] (fun vg pa p wr => ∃ (k : Nat) (at_ : Int) (out : List (Int × Int)), p = .int .i64 k ∧ pa = .int .i64 at_ ∧ k ≤ m.length ∧ 0 ≤ at_ ∧ at_ ≤ 9223372036854775807 ∧ out.length ≤ k ∧ Hid (out ++ gapsGo n at_ (m.drop k) = R) ∧ RunsAt w1.heap.size vg out wr ∧ Below w1.heap.size w1 wr) (fun _ _ p _ => m.length - (intOf p).toNat)
  case atStart => exact ⟨0, 0, [], rfl, rfl, Nat.zero_le _, Int.le_refl _, by omega, Nat.le_refl _, HG, World.ownsRow_nil _ _ _ _, Below.refl _ _⟩
  case round =>
    obtain ⟨k, at_, out, rfl, rfl, hk, ha0, ha1, hol, HR, hown, hb⟩ := hrel
    have ha64 : I64 at_ := ⟨by omega, ha1⟩
    by_cases hlt : k < m.length
    · obtain ⟨g, rfl, hgB, hg⟩ := m3 (by omega)
      obtain ⟨c1, c2⟩ := run_cells (row_kept hm hb) k hlt
      have hok1 := hok _ (List.getElem_mem hlt)
      have hfr := okR_fit hok1
      obtain ⟨hr1, hr2, hr3⟩ := hok1
      have hdrop : m.drop k = (m[k].1, m[k].2) :: m.drop (k + 1) := List.drop_eq_getElem_cons hlt
      rw [hdrop] at HR
      have hiE : I64 (m[k].1 + m[k].2) := ⟨by omega, hr3⟩
      generalize m[k].1 = a at *
      generalize m[k].2 = b at *
      by_cases hstop : n ≤ a
      · rw [gaps_stop hstop] at HR
        have hownT := hown.alloc (.cells #[.int .i64 a, .int .i64 b] 32)
        have hbT := balloc' hb hb.size (.cells #[.int .i64 a, .int .i64 b] 32)
        clear hown hb hm m3 hok hdrop HG
        by_cases hat : at_ < n
        · rw [if_pos hat] at HR
          have B := Lib.hid (between_below at_ n ⟨by omega, by omega⟩)
          go_wp2_with fail
          refine (B.out _).mono ?_; rintro e w3 ⟨rfl, b3⟩
          have hown3 := row_kept hownT b3
          have hb3 := hbT.trans (b3.mono hbT.size)
          have hs3 := hb3.size
          clear hownT hbT b3 B
          go_wp2_with (at_builtin; refine wpList_app rfl _ _ rfl w1.heap.size _ out rfl (hown3.alloc _) ⟨w3.heap.size, 0, none⟩ 1 1 [(at_, n - at_)] rfl rfl (new_cells1 _ _ _) (by omega) (by rw [size_alloc]; omega) ?_)
          intro v' w4 h4 h5
          have hb4 := (balloc' hb3 hs3 _).trans h5
          rw [HR.out] at h4
          clear hown3 hb3 h5 hs3
          go_wp2
          go_ret
          exact ⟨_, rfl, row_down hb1.size h4, bnext hb1 hb4⟩
        · rw [if_neg hat, List.append_nil] at HR
          rw [HR.out] at hownT
          have hat : n ≤ at_ := by omega
          go_wp2
          go_ret
          exact ⟨_, rfl, row_down hb1.size hownT, bnext hb1 hbT⟩
      · rw [gaps_on hstop] at HR
        have E := Lib.hid (end_below a b hiE)
        have hstop : a < n := by omega
        by_cases hgap : at_ < a
        · rw [if_pos hgap, ← List.append_assoc] at HR
          have B := Lib.hid (between_below at_ a ⟨by omega, by omega⟩)
          have hown0 := hown.alloc (.cells #[.int .i64 a, .int .i64 b] 32)
          have hb0 := balloc' hb hb.size (.cells #[.int .i64 a, .int .i64 b] 32)
          clear hm m3 hok hdrop HG
          go_wp2_with fail
          refine (B.out _).mono ?_; rintro e w3 ⟨rfl, b3⟩
          have b3' : Below (wr.heap.size + 1) (wr.alloc (.cells #[.int .i64 a, .int .i64 b] 32)) w3 := by rw [← size_alloc]; exact b3
          obtain ⟨d1, d2⟩ := two_old b3'
          have hN : wr.heap.size < w3.heap.size := by have := b3'.size; rw [size_alloc] at this; omega
          have hown3 := row_kept hown0 b3
          have hb3 := hb0.trans (b3.mono hb0.size)
          have hs3 := hb3.size
          have hne : ∀ v : Value, wr.ownsRow w1.heap.size 32 2 v out.length (cellsR out) → some wr.heap.size ≠ v.ownBlock := fun v h e => by
            have := (h.lt _ e.symm).2; omega
          have hne := hne _ hown
          have d1 := cell_old (a := ⟨wr.heap.size, 0, none⟩) hN d1 (.cells #[.int .i64 at_, .int .i64 (a - at_)] 32)
          have d2 := cell_old (a := ⟨wr.heap.size, 1, none⟩) hN d2 (.cells #[.int .i64 at_, .int .i64 (a - at_)] 32)
          have hN3 : wr.heap.size < (w3.alloc (.cells #[.int .i64 at_, .int .i64 (a - at_)] 32)).heap.size := by rw [size_alloc]; omega
          have hown3' := hown3.alloc (.cells #[.int .i64 at_, .int .i64 (a - at_)] 32)
          have hbelow : ∀ v w4, RunsAt w1.heap.size v out w3 → (w3.alloc (.cells #[.int .i64 at_, .int .i64 (a - at_)] 32)).grownBy w4 v.ownBlock → Below w1.heap.size w1 w4 := fun v w4 h g =>
            (balloc' hb3 hs3 _).trans (below_of_row (h.alloc _) g (by rw [size_alloc]; omega))
          have hbelow := fun w4 => hbelow _ w4 hown3
          have hbelow := Lib.hid hbelow
          clear hown0 hb0 b3 b3' B hown hown3 hb3
          go_wp2_with (at_builtin; refine wpList_appg rfl _ _ rfl w1.heap.size _ out rfl hown3' ⟨w3.heap.size, 0, none⟩ 1 (at_, a - at_) rfl (new_cells1 _ _ _) (by omega) (by rw [size_alloc]; omega) ?_)
          intro v' w4 h4 hg4
          have d1 := cell_grownBy hg4 (a := ⟨wr.heap.size, 0, none⟩) hN3 hne d1
          have d2 := cell_grownBy hg4 (a := ⟨wr.heap.size, 1, none⟩) hN3 hne d2
          have hb4 := hbelow.out _ hg4
          clear hown3' hg4 hbelow hne
          go_wp2_with fail
          refine (E.out _).mono ?_; rintro e w5 ⟨rfl, b5⟩
          have h5 := row_kept h4 b5
          have hb5 := hb4.trans (b5.mono hb4.size)
          clear h4 hb4 b5 E d1 d2
          go_wp2
          exact ⟨⟨k + 1, a + b, out ++ [(at_, a - at_)], by go_num, rfl, by omega, by omega, hr3, by simp; omega, HR, h5, hb5⟩, by simp [intOf]; omega⟩
        · rw [if_neg hgap, List.nil_append] at HR
          have hgap : a ≤ at_ := by omega
          have hown0 := hown.alloc (.cells #[.int .i64 a, .int .i64 b] 32)
          have hb0 := balloc' hb hb.size (.cells #[.int .i64 a, .int .i64 b] 32)
          clear hown hb hm m3 hok hdrop HG
          go_wp2_with fail
          refine (E.out _).mono ?_; rintro e w3 ⟨rfl, b3⟩
          have hown3 := row_kept hown0 b3
          have hb3 := hb0.trans (b3.mono hb0.size)
          clear hown0 hb0 b3 E
          go_wp2
          exact ⟨⟨k + 1, a + b, out, by go_num, rfl, by omega, by omega, hr3, by omega, HR, hown3, hb3⟩, by simp [intOf]; omega⟩
    · obtain rfl : k = m.length := by omega
      rw [List.drop_length, gaps_nil] at HR
      have hownT := hown
      have hbT := hb
      clear hown hb hm m3 hok HG
      by_cases hat : at_ < n
      · rw [if_pos hat] at HR
        have B := Lib.hid (between_below at_ n ⟨by omega, by omega⟩)
        go_wp2_with fail
        refine (B.out _).mono ?_; rintro e w3 ⟨rfl, b3⟩
        have hown3 := row_kept hownT b3
        have hb3 := hbT.trans (b3.mono hbT.size)
        have hs3 := hb3.size
        clear hownT hbT b3 B
        go_wp2_with (at_builtin; refine wpList_app rfl _ _ rfl w1.heap.size _ out rfl (hown3.alloc _) ⟨w3.heap.size, 0, none⟩ 1 1 [(at_, n - at_)] rfl rfl (new_cells1 _ _ _) (by omega) (by rw [size_alloc]; omega) ?_)
        intro v' w4 h4 h5
        have hb4 := (balloc' hb3 hs3 _).trans h5
        rw [HR.out] at h4
        clear hown3 hb3 h5 hs3
        go_wp2
        go_ret
        exact ⟨_, rfl, row_down hb1.size h4, bnext hb1 hb4⟩
      · rw [if_neg hat, List.append_nil] at HR
        rw [HR.out] at hownT
        have hat : n ≤ at_ := by omega
        go_wp2
        go_ret
        exact ⟨_, rfl, row_down hb1.size hownT, bnext hb1 hbT⟩
end Go.Proofs.Ytgcbfiecgiijkaa

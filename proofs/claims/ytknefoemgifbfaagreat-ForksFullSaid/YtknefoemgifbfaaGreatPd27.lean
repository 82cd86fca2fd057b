import Derived.Test.YtknefoemgifbfaaGreatPd25
import Derived.Test.YtknefoemgifbfaaGreatPd26
import Derived.Laws.AppendOwnNone
set_option linter.unusedVariables false
set_option linter.unusedSimpArgs false
set_option linter.constructorNameAsVariable false
set_option maxRecDepth 100000
set_option maxHeartbeats 16000000
namespace Go.Proofs.YtknefoemgifbfaaGreat
open Go.RowKit
theorem wpList_app {ops : Array Oper} {rest : List Oper} {o : Oper} {a : Act} {Q : Exit → Act → World → Prop} {w : World} (hgd : o.guard = none) (s x : Operand)
 (ho : o.op = .call { callee := .builtin .append, args := #[s, x], argTypes := #[126, 126] })
 (base : Nat) (v : Value) (l : List (Int × Int)) (hs : a.eval s = v) (hown : RunsAt base v l w)
 (ad : Addr) (m c : Nat) (news : List (Int × Int)) (hm : news.length = m) (hx : a.eval x = .slice (some ad) m c) (hnews : ∀ j u, (cellsR news)[j]? = some u → w.cell? (ad.add j) = some u)
 (hlen : l.length + m ≤ 4000000) (hbase : base ≤ w.heap.size)
 (h : ∀ v' w', RunsAt base v' (l ++ news) w' → Below base w w' → wpList Tryz.prog ops Q rest (a.put o.dst v') w') : wpList Tryz.prog ops Q (o :: rest) a w := by
 obtain ⟨i0, hi, hz0, hz1, hz2⟩ := info_parts info_run;refine wpList_append_own w hgd s x 126 ho base 136 i0 (.agg #[.int .i64 0, .int .i64 0]) 2 16 Tryz.underlying126 hi hz0 hz1 hz2 rfl (by decide) v _ _ hs hown ad m c (cellsR news) hx (by rw [cellsR_length, hm]) hnews ?_ (by unfold maxLen; omega) (by omega) hbase ?_
 ·intro u hu
  clear hnews hx ho hown h
  induction news generalizing m with
  | nil => simp [cellsR] at hu
  | cons r news ih =>
    rw [cellsR] at hu;simp only [List.mem_cons] at hu;rcases hu with rfl | rfl | hu
    ·rfl
    ·rfl
    ·exact ih _ rfl (by simp at hm; omega) hu
 ·intro v' w' h1 h2 _
  refine h v' w' ?_ (below_of_row hown h2 hbase)
  show w'.ownsRow _ _ _ _ (l ++ news).length (cellsR (l ++ news))
  rw [List.length_append, hm, cellsR_append]; exact h1
theorem new_cells1 (w : World) (a b : Int) : ∀ (j : Nat) (u : Value), (cellsR [(a, b)])[j]? = some u → (w.alloc (.cells #[.int .i64 a, .int .i64 b] 136)).cell? ((⟨w.heap.size, 0, none⟩ : Addr).add j) = some u := new_cells w a b
def SortsR : Prop := ∀ (l : List (Int × Int)) (B : Nat) (v : Value) (W : World), B ≤ W.heap.size → l.length ≤ 1000000 → RunsAt B v l W →
 Calls Tryz.prog 123 #[v, .func (.func 124) #[] #[]] W fun e w' => e = .returned (.tuple #[]) ∧
  ∃ s, s.length = l.length ∧ (∀ r, r ∈ s ↔ r ∈ l) ∧ risingR s ∧ RunsAt B v s w' ∧ Below B W w'
theorem own_len1 {B : Nat} {v : Value} {m : List (Int × Int)} {q : Int × Int} {w : World} (h : RunsAt B v (m ++ [q]) w) : w.ownsRow B 136 2 v (m.length + 1) (cellsR (m ++ [q])) := by
 have h : w.ownsRow _ _ _ v (m ++ [q]).length _ := h;rwa [List.length_append, List.length_singleton] at h
theorem own_of_len1 {B : Nat} {v : Value} {m : List (Int × Int)} {q : Int × Int} {w : World} (h : w.ownsRow B 136 2 v (m.length + 1) (cellsR (m ++ [q]))) : RunsAt B v (m ++ [q]) w := by
 show w.ownsRow _ _ _ v (m ++ [q]).length _
 rwa [List.length_append, List.length_singleton]
theorem between_gr (a b : Int) (h : I64 (b - a)) (W : World) :
 Calls Tryz.prog 116 #[.int .i64 a, .int .i64 b] W fun e w' => e = .returned (.agg #[.int .i64 a, .int .i64 (b - a)]) ∧ ∃ q os', w' = Sort.grow (W.drewN q) os' :=
 (between_any a b h W).mono fun e w' ⟨he, hw⟩ => ⟨he, 0, _, hw.trans (Sort.alloc_eq_grow _ _)⟩
theorem balloc' {B : Nat} {w a : World} (h : Below B w a) (hB : B ≤ a.heap.size) (o : Obj) : Below B w (a.alloc o) := h.alloc hB o
theorem valid_below (a b : Int) (ha : I64 a) (hb : I64 b) (W : World) :
 Calls Tryz.prog 96 #[.agg #[.int .i64 a, .int .i64 b]] W fun e w' => e = .returned (.bool (decide (okR (a, b)))) ∧ Below W.heap.size W w' :=
 (runvalid_any a b ha hb W).mono fun e w' ⟨he, hw⟩ => ⟨he, by rw [hw]; exact (Below.refl _ _).alloc (Nat.le_refl _) _⟩
theorem two_old {w w' : World} {a b : Int} (h : Below (w.heap.size + 1) (w.alloc (.cells #[.int .i64 a, .int .i64 b] 136)) w') : w'.cell? ⟨w.heap.size, 0, none⟩ = some (.int .i64 a) ∧ w'.cell? ⟨w.heap.size, 1, none⟩ = some (.int .i64 b) := by
 constructor
 ·rw [h.cell (p := ⟨w.heap.size, 0, none⟩) (Nat.lt_succ_self _), World.cell?_alloc_mark]; rfl
 ·rw [h.cell (p := ⟨w.heap.size, 1, none⟩) (Nat.lt_succ_self _), World.cell?_alloc_mark]; rfl
theorem normal_any (hsort : SortsR) (l : List (Int × Int)) (hf : fitR l) (hl : l.length ≤ 1000000) (v : Value) (w : World) (hv : RunsIn v l w) :
 Calls Tryz.prog 98 #[v] w fun e w' => ∃ v', e = .returned v' ∧ RunsAt w.heap.size v' (normR l) w' ∧ Below w.heap.size w w' := by
 obtain ⟨ad, cap, rfl, h1, h2, h3, -⟩ := id hv;have h2 : cap ≤ 9223372036854775807 := h2
 have mixed : Tryz.prog.follows .mixedOrders = true := by kernel_rfl
 have HS := Lib.hid hsort;clear hsort
 go_enter Tryz.func98, Tryz.ntmps98
 go_wp2
 go_loopw [3, 12] (fun vs p wr => ∃ k : Nat, p = .int .i64 k ∧ k ≤ l.length ∧ RunsAt w.heap.size vs (okL (l.take k)) wr ∧ Below w.heap.size w wr) (fun _ p _ => l.length - (intOf p).toNat)
 case atStart => exact ⟨0, rfl, Nat.zero_le _, World.ownsRow_nil _ _ _ _, Below.refl _ _⟩
 case round =>
  obtain ⟨k, rfl, hk, hown, hb⟩ := hrel;by_cases hlt : k < l.length
  ·obtain ⟨g, o, rfl, hg, hc⟩ := h3 (by omega)
   obtain ⟨c1, c2⟩ := hc k hlt;have c1 : wr.cell? ⟨g, o + k * 2, none⟩ = _ := (hb.cell (p := ⟨g, o + k * 2, none⟩) hg).trans c1;have c2 : wr.cell? ⟨g, o + k * 2 + 1, none⟩ = _ := (hb.cell (p := ⟨g, o + k * 2 + 1, none⟩) hg).trans c2;have hfk := fit_at hf k hlt;have V := valid_below l[k].1 l[k].2 hfk.1 hfk.2;have HT : Hid (okL (l.take (k + 1)) = okL (l.take k) ++ if okR l[k] then [l[k]] else []) := Lib.hid (by rw [List.take_succ_eq_append_getElem hlt, okL_snoc]);have hol : (okL (l.take k)).length ≤ k := Nat.le_trans (okL_len _) (by rw [List.length_take]; omega);generalize okL (l.take k) = m at *;obtain ⟨ads, caps, rfl, s1, s2, s3⟩ := shape_of hown;by_cases hok : okR l[k]
   ·rw [show decide (okR (l[k].1, l[k].2)) = true from decide_eq_true hok] at V
    have HT2 : Hid (okL (l.take (k + 1)) = m ++ [(l[k].1, l[k].2)]) := Lib.hid (by have := HT.out; rw [if_pos hok] at this; exact this);generalize l[k].1 = a at *;generalize l[k].2 = b at *;have V := Lib.hid V;clear hc h3 hv HT hok;go_wp2_with fail
    refine (V.out _).mono ?_; rintro e w1 ⟨rfl, b1⟩
    have b1' : Below (wr.heap.size + 1) (wr.alloc (.cells #[.int .i64 a, .int .i64 b] 136)) w1 := by rw [← size_alloc]; exact b1
    obtain ⟨d1, d2⟩ := two_old b1';have hown1 := row_kept (hown.alloc _) b1;have hbw := bnext (balloc hb _) b1;clear b1 b1' hown c1 c2 V
    go_wp2_with (at_builtin; refine wpList_app rfl _ _ rfl w.heap.size _ _ rfl (hown1.alloc _) ⟨w1.heap.size, 0, none⟩ 1 1 [(a, b)] rfl rfl (new_cells1 _ _ _) (by omega) (by rw [size_alloc]; exact Nat.le_succ_of_le hbw.size) ?_)
    intro v' w2 hown2 hb2;have hb3 := (balloc hbw _).trans hb2;clear hown1 hbw hb2;go_wp2;exact ⟨⟨k + 1, by go_num, by omega, by rw [HT2.out]; exact hown2, hb3⟩, by simp [intOf]; omega⟩
   ·rw [show decide (okR (l[k].1, l[k].2)) = false from decide_eq_false hok] at V
    have HT2 : Hid (okL (l.take (k + 1)) = m) := Lib.hid (by have := HT.out; rw [if_neg hok, List.append_nil] at this; exact this);generalize l[k].1 = a at *;generalize l[k].2 = b at *;have V := Lib.hid V;clear hc h3 hv HT hok;go_wp2_with fail
    refine (V.out _).mono ?_; rintro e w1 ⟨rfl, b1⟩;have hown1 := row_kept (hown.alloc _) b1;have hbw := bnext (balloc hb _) b1;clear b1 hown c1 c2 V;go_wp2;exact ⟨⟨k + 1, by go_num, by omega, by rw [HT2.out]; exact hown1, hbw⟩, by simp [intOf]; omega⟩
  ·obtain rfl : k = l.length := by omega
   rw [List.take_length] at hown;have hokL := okL_ok l;have hel := okL_elem l;have hol := okL_len l;generalize okL l = m at *;have S := HS.out m w.heap.size _ wr hb.size (by omega) hown;have S := Lib.hid S;clear HS hown h3 hv;go_wp2_with fail
   refine S.out.mono ?_; rintro e w2 ⟨rfl, s, hsl, hsm, hsr, hs, b2⟩;have hbw := hb.trans b2;have hsok : ∀ r ∈ s, okR r := fun r hr => hokL r ((hsm r).1 hr);have HALL : Hid (mergeL s = normR l) := Lib.hid (merge_all hsr hsok fun i => (perm_elem hsm i).trans (hel i));have HM := Lib.hid (merge_upto s hsr hsok)
   have hsl2 : s.length ≤ 1000000 := by omega
   obtain ⟨ads, caps, rfl, s1, s2, s3⟩ := shape_of hs;have s2 : caps ≤ 9223372036854775807 := s2;clear S hb b2 hokL hel hol hsl hsm hsr;go_wp2
   go_loopw [6, 27] (fun vn p wr => ∃ k : Nat, p = .int .i64 k ∧ k ≤ s.length ∧ RunsAt w2.heap.size vn (mergeL (s.take k)) wr ∧ Below w2.heap.size w2 wr) (fun _ p _ => s.length - (intOf p).toNat)
   case atStart => exact ⟨0, rfl, Nat.zero_le _, World.ownsRow_nil _ _ _ _, Below.refl _ _⟩
   case round =>
    obtain ⟨k, rfl, hk, hown, hb⟩ := hrel;by_cases hlt : k < s.length
    ·obtain ⟨g, rfl, hgB, hg⟩ := s3 (by omega)
     obtain ⟨c1, c2⟩ := run_cells (row_kept hs hb) k hlt;obtain ⟨n1, n2, n3⟩ := HM.out k hk;have n3 := n3 hlt;have hok := hsok _ (List.getElem_mem hlt);have hfk := okR_fit hok;have hol : (mergeL (s.take k)).length ≤ k := Nat.le_trans (merge_len _) (by rw [List.length_take]; omega);have HT : Hid (mergeL (s.take (k + 1)) = mergeStep (mergeL (s.take k)) (s[k].1, s[k].2)) := Lib.hid (by rw [List.take_succ_eq_append_getElem hlt, mergeL_snoc]);generalize mergeL (s.take k) = out at *;obtain ⟨y1, y2⟩ := two_gr wr s[k].1 s[k].2;have hbq := balloc' hb hb.size (.cells #[.int .i64 s[k].1, .int .i64 s[k].2] 136);have hownq := hown.alloc (.cells #[.int .i64 s[k].1, .int .i64 s[k].2] 136);have hszq := hbq.size;have hnq := size_alloc wr (.cells #[.int .i64 s[k].1, .int .i64 s[k].2] 136);rcases snoc_cases out with rfl | ⟨m, q, rfl⟩
     ·rw [mergeStep_nil] at HT
      generalize s[k].1 = a at *;generalize s[k].2 = b at *;obtain ⟨adn, capn, rfl, t1, t2, t3⟩ := shape_of hown;have t2 : capn ≤ 9223372036854775807 := t2;clear hs s3 HM n1 n2 n3 hok hfk hown hsok HALL t3;go_wp2;generalize wr.alloc (.cells #[.int .i64 a, .int .i64 b] 136) = wq at *;refine wp_region_quiet_grown mixed (by kernel_rfl) ?_
      repeat (go_big_quiet_step (fail))
      refine wpQuiet_nil ?_;intro _ hw';obtain ⟨⟨nq, osq⟩, hw''⟩ := hw';subst hw'';have hx : Below wq.heap.size wq (Sort.grow (wq.drewN nq) osq) := bgrow (below_drewN (Below.refl _ _) _) _;have hownx := row_kept hownq hx;have hbx := hbq.trans (hx.mono hszq);have x1 := y1 nq osq;have x2 := y2 nq osq;clear hx hownq hbq y1 y2 hszq hnq;generalize Sort.grow (wq.drewN nq) osq = wx at *;have hsx := hbx.size
      go_wp2_with (at_builtin; refine wpList_app rfl _ _ rfl w2.heap.size _ _ rfl (hownx.alloc _) ⟨wx.heap.size, 0, none⟩ 1 1 [(a, b)] rfl rfl (new_cells1 _ _ _) (by simp) (by rw [size_alloc]; omega) ?_)
      intro v' w3 hown3 hb3;have hb4 := (balloc' hbx hsx _).trans hb3;clear hownx hbx hb3 hsx;go_wp2;exact ⟨⟨k + 1, by go_num, by omega, by rw [HT.out]; exact hown3, hb4⟩, by simp [intOf]; omega⟩
     ·obtain ⟨i1, i2, i3, i4⟩ := norm_init n1
      have n3 := n3 q (by simp);rw [List.length_append, List.length_singleton] at hol;have hown' := own_len1 hown;obtain ⟨adn, capn, rfl, t1, t2, t3⟩ := shape_of hown';obtain ⟨gn, rfl, hgnB, hgn⟩ := t3 (by omega);have t2 : capn ≤ 9223372036854775807 := t2;obtain ⟨e1, e2⟩ := run_cells hown' m.length (by simp);simp only [List.getElem_append_right (Nat.le_refl _), Nat.sub_self, List.getElem_cons_zero] at e1 e2
      have hgnq : gn < (wr.alloc (.cells #[.int .i64 s[k].1, .int .i64 s[k].2] 136)).heap.size := by omega
      have v1 := cell_old (a := ⟨gn, m.length * 2, none⟩) hgn e1 (.cells #[.int .i64 s[k].1, .int .i64 s[k].2] 136);have v2 := cell_old (a := ⟨gn, m.length * 2 + 1, none⟩) hgn e2 (.cells #[.int .i64 s[k].1, .int .i64 s[k].2] 136);have z1 := cell_gr (a := ⟨gn, m.length * 2, none⟩) hgnq v1;have z2 := cell_gr (a := ⟨gn, m.length * 2 + 1, none⟩) hgnq v2;have hfq := okR_fit i2
      have hiq : I64 (q.1 + q.2) := by have := i2.1; have := i2.2.1; have := i2.2.2; exact ⟨by omega, by omega⟩
      have hir : I64 (s[k].1 + s[k].2) := by have := hok.1; have := hok.2.1; have := hok.2.2; exact ⟨by omega, by omega⟩
      have E := Lib.hid (end_gr q.1 q.2 hiq)
      have hm16 : m.length ≤ 1000000 := by omega
      have d0 : decide ((m.length : Int) < 0) = false := decide_eq_false (by omega)
      have hown0 : Hid (RunsAt w2.heap.size (.slice (some ⟨gn, 0, none⟩) (m.length + 1) capn) (m ++ [q]) (wr.alloc (.cells #[.int .i64 s[k].1, .int .i64 s[k].2] 136))) := Lib.hid (by
       show World.ownsRow _ _ _ _ _ (m ++ [q]).length _
       rw [List.length_append, List.length_singleton]; exact hown'.alloc _)
      by_cases hnew : q.1 + q.2 < s[k].1
      ·have HT2 : Hid (mergeL (s.take (k + 1)) = m ++ [q, (s[k].1, s[k].2)]) := Lib.hid (by have := HT.out; rw [mergeStep_new hnew, List.append_assoc] at this; exact this)
       have d1 : decide (q.1 + q.2 < s[k].1) = true := decide_eq_true hnew;generalize s[k].1 = a at *;generalize s[k].2 = b at *;generalize q.1 = qa at *;generalize q.2 = qb at *;clear hs s3 HM n1 n2 n3 hok hfk hown hown' hownq hsok HALL t3 i1 i2 i3 i4 HT hnew v1 v2 e1 e2 hfq hiq hir;go_wp2;generalize wr.alloc (.cells #[.int .i64 a, .int .i64 b] 136) = wq at *;refine wp_region_quiet_grown mixed (by kernel_rfl) ?_
       repeat (go_big_quiet_step (first | (go_at_call 97; refine Calls.grown_of (E.out _))))
       refine wpQuiet_nil ?_;intro _ hw';obtain ⟨⟨nq, osq⟩, hw''⟩ := hw';subst hw'';have hx : Below wq.heap.size wq (Sort.grow (wq.drewN nq) osq) := bgrow (below_drewN (Below.refl _ _) _) _;have hownx := row_kept hown0.out hx;have hbx := hbq.trans (hx.mono hszq);have x1 := y1 nq osq;have x2 := y2 nq osq;clear hx hbq y1 y2 hszq hnq z1 z2 hown0;generalize Sort.grow (wq.drewN nq) osq = wx at *;have hsx := hbx.size
       go_wp2_with (at_builtin; refine wpList_app rfl _ _ rfl w2.heap.size _ _ rfl (hownx.alloc _) ⟨wx.heap.size, 0, none⟩ 1 1 [(a, b)] rfl rfl (new_cells1 _ _ _) (by simp; omega) (by rw [size_alloc]; omega) ?_)
       intro v' w3 hown3 hb3;have hb4 := (balloc' hbx hsx _).trans hb3;clear hownx hbx hb3 hsx;go_wp2;exact ⟨⟨k + 1, by go_num, by omega, by rw [HT2.out]; exact hown3, hb4⟩, by simp [intOf]; omega⟩
      ·have HT2 : Hid (mergeL (s.take (k + 1)) = m ++ [(q.1, max (q.1 + q.2) (s[k].1 + s[k].2) - q.1)]) := Lib.hid (by have := HT.out; rw [mergeStep_on hnew] at this; exact this)
       have d1 : decide (q.1 + q.2 < s[k].1) = false := decide_eq_false hnew;obtain ⟨mx, hmx⟩ : ∃ mx, max (q.1 + q.2) (s[k].1 + s[k].2) = mx := ⟨_, rfl⟩
       have hib : I64 (mx - q.1) := by
        have := i2.1; have := i2.2.1; have := i2.2.2; have := hok.1; have := hok.2.1; have := hok.2.2;exact ⟨by omega, by omega⟩
       rw [hmx] at HT2;generalize s[k].1 = a at *;generalize s[k].2 = b at *;have hq : (q.1, q.2) = q := rfl;generalize q.1 = qa at *;generalize q.2 = qb at *;clear hs s3 HM n1 n2 n3 hok hfk hown hown' hownq hsok HALL t3 i1 i2 i3 i4 HT hnew v1 v2 e1 e2 hfq;go_wp2;generalize wr.alloc (.cells #[.int .i64 a, .int .i64 b] 136) = wq at *;refine wp_region_quiet_grown mixed (by kernel_rfl) ?_
       repeat (go_big_quiet_step (first | (go_at_call 97; refine Calls.grown_of (E.out _))))
       refine wpQuiet_nil ?_;intro _ hw';obtain ⟨⟨nq, osq⟩, hw''⟩ := hw';subst hw'';have hx : Below wq.heap.size wq (Sort.grow (wq.drewN nq) osq) := bgrow (below_drewN (Below.refl _ _) _) _;have hownx := row_kept hown0.out hx;have hbx := hbq.trans (hx.mono hszq);have hgx : gn < (Sort.grow (wq.drewN nq) osq).heap.size := Nat.lt_of_lt_of_le hgnq hx.size;have hNx : wr.heap.size < (Sort.grow (wq.drewN nq) osq).heap.size := Nat.lt_of_lt_of_le (by omega) hx.size;have x1 := y1 nq osq;have x2 := y2 nq osq;have x3 := z1 nq osq;have x4 := z2 nq osq;clear hx hbq y1 y2 hszq hnq z1 z2 hown0;generalize Sort.grow (wq.drewN nq) osq = wx at *;have hsx := hbx.size;have hown4 := own_len1 hownx;have f1 := hown4.frozenAt (m.length * 2);have f2 := hown4.frozenAt (m.length * 2 + 1);have HO := Lib.hid hown4;have HB := Lib.hid hbx;clear hownx hown4
       have dmx : (if qa + qb < a + b then a + b else qa + qb) = mx := by rw [← hmx]; split <;> omega
       have i0 : (0 : Int) ≤ (m.length : Int) := by omega
       have i1 : (m.length : Int) < (m.length : Int) + 1 := by omega
       have w1 := cell_gr (a := ⟨wr.heap.size, 0, none⟩) hNx x1;have w2' := cell_gr (a := ⟨wr.heap.size, 1, none⟩) hNx x2;have w3' := cell_gr (a := ⟨gn, m.length * 2, none⟩) hgx x3;have w4 := cell_gr (a := ⟨gn, m.length * 2 + 1, none⟩) hgx x4;have E2 := Lib.hid (end_gr qa qb hiq);have E3 := Lib.hid (end_gr a b hir);have E4 := Lib.hid (between_gr qa mx hib);clear hmx E;go_wp2;refine wp_region_tail 17 _ rfl mixed rfl rfl (by kernel_rfl) ?_;simp only [List.take_succ_cons, List.take_zero, List.cons_append, List.nil_append, calm]
       repeat (go_big_quiet_step (first | (go_at_call_of 97 (Value.agg #[.int .i64 qa, .int .i64 qb]); refine Calls.grown_of (E2.out _)) | (go_at_call_of 97 (Value.agg #[.int .i64 a, .int .i64 b]); refine Calls.grown_of (E3.out _)) | (go_at_call 116; refine Calls.grown_of (E4.out _))))
       refine wpQuiet_nil ?_;intro _ hw';obtain ⟨⟨nq, osq⟩, hw''⟩ := hw';subst hw'';have hy : Below wx.heap.size wx (Sort.grow (wx.drewN nq) osq) := bgrow (below_drewN (Below.refl _ _) _) _;have hownz := row_kept HO.out hy;have hbz := HB.out.trans (hy.mono hsx);have g1 := hownz.frozenAt (m.length * 2);have g2 := hownz.frozenAt (m.length * 2 + 1);have g3 := w3' nq osq;have g4 := w4 nq osq;clear hy w1 w2' w3' w4 HO HB;generalize Sort.grow (wx.drewN nq) osq = wz at *;have hs1 := (hownz.stored (m.length * 2) (.int .i64 qa)).1;have hs2 := (hs1.stored (m.length * 2 + 1) (.int .i64 (mx - qa))).1;rw [cellsR_last m q (qa, mx - qa)] at hs2;have hs2 := Lib.hid hs2;clear hs1 hownz;go_wp2;exact ⟨⟨k + 1, by go_num, by omega, by rw [HT2.out]; exact own_of_len1 hs2.out, (hbz.setCell (by exact hgnB) _).setCell (by exact hgnB) _⟩, by simp [intOf]; omega⟩
    ·obtain rfl : k = s.length := by omega
     rw [List.take_length, HALL.out] at hown;clear s3 hs HM hsok;go_wp2;go_ret;exact ⟨_, rfl, row_down hbw.size hown, hbw.trans (hb.mono hbw.size)⟩
open Go.RowKit Go.Shelf
end Go.Proofs.YtknefoemgifbfaaGreat

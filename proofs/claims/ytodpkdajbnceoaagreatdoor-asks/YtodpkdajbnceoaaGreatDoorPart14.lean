import Derived.Test.YtodpkdajbnceoaaGreatDoorPart13
set_option linter.all false
set_option maxHeartbeats 2000000
set_option maxRecDepth 100000
namespace Go.Proofs.YtodpkdajbnceoaaGreatDoor
open Go.RowKit
def InCall (hb : Nat) (V : _root_.Fin 6 → Value) (avs : List Value) (most : Int) (h : Hp) (v : Nat) (g : Nat → Int → Bool × Int) (lo hi : Int) : Prop :=
  ∀ (w : World) (c : Int) (t : Nat), HpIn w hb V avs most { h with cost := c } → lo ≤ c → c ≤ hi → t < h.T.length →
    Calls Tryz.prog 222 #[.pointer (some ⟨hb, 0, none⟩), .int .i64 v, .int .i64 t] w fun e w' => InPost hb V avs most h w (g t c) e w'
theorem in_cmp {w : World} {hb : Nat} {V : _root_.Fin 6 → Value} {avs : List Value} {most : Int} {h : Hp} (H : HpIn w hb V avs most h) (h4 : Four h.T) (hc0 : 0 ≤ h.cost) (hc : h.cost ≤ 1000000000000) (v t : Nat) (ht : t < h.T.length) (hs : spentB (h.cost + 1) most h.err = false) (hv : wk h.bs t ≠ v) (hk : (nd h.T (wk h.bs t)).k = 99)
    {g : Nat → Int → Bool × Int} {M : Int} (hg : ∀ a c, c + 1 ≤ (g a c).2 ∧ (g a c).2 ≤ max (c + 1) M) (hI : InCall hb V avs most h v g (h.cost + 1) (max (h.cost + 1) M + 4)) :
    Calls Tryz.prog 222 #[.pointer (some ⟨hb, 0, none⟩), .int .i64 v, .int .i64 t] w fun e w' => InPost hb V avs most h w (anyS g (nd h.T (wk h.bs t)).ags (h.cost + 1)) e w' := by
  have c6 : w.cell? ⟨hb, 6, none⟩ = some (.int .i64 h.cost) := H.tab.H.c 6
  have f6 := H.tab.H.fz 6
  have hhz := H.tab.H.lt_size
  have hsm := H.small
  obtain ⟨h1, hf1⟩ := H.count (h.cost + 1)
  have hsp := spent_x h1.tab.H
  rw [show (decide (most < h.cost + 1) || !(h.err == 0)) = false from hs] at hsp
  have hrl := wk_lt H.ok t ht
  have HW : Hid (∀ w3, HpIn w3 hb V avs most { h with cost := h.cost + 1 } → Calls Tryz.prog 98 #[.pointer (some ⟨hb, 0, none⟩), .int .i64 t] w3 fun e w' => e = .returned (.int .i64 (wk h.bs t)) ∧ w' = w3) := fun w3 h3 => walk_x h3 t ht
  have HC : Hid (∀ w3, HpIn w3 hb V avs most { h with cost := h.cost + 1 } → ∃ g0 cap0 g4 cap4, w3.cell? ⟨hb, 0, none⟩ = some (.slice (some ⟨g0, 0, none⟩) h.T.length cap0) ∧ w3.cell? ⟨hb, 4, none⟩ = some (.slice (some ⟨g4, 0, none⟩) h.T.length cap4) ∧ h.T.length ≤ cap0 ∧ cap0 ≤ maxLen ∧ h.T.length ≤ cap4 ∧ cap4 ≤ maxLen ∧ g0 < w3.heap.size ∧ g4 < w3.heap.size ∧
      w3.cell? ⟨g0, wk h.bs t, none⟩ = some (.int .u8 (nd h.T (wk h.bs t)).k) ∧ w3.cell? ⟨g4, wk h.bs t, none⟩ = some (.int .i64 (match toOf h.bs (wk h.bs t) with | some u => (u : Int) | none => -1))) := fun w3 h3 => hp_cells h3 _ hrl
  have HA : Hid (∀ w3 c, HpIn w3 hb V avs most { h with cost := c } → ∃ g3 p3 ao cap, w3.cell? ⟨hb, 3, none⟩ = some (.slice (some ⟨g3, 0, none⟩) h.T.length p3) ∧ h.T.length ≤ p3 ∧ p3 ≤ maxLen ∧ g3 < w3.heap.size ∧ w3.cell? ⟨g3, wk h.bs t, none⟩ = some (.slice ao (nd h.T (wk h.bs t)).ags.length cap) ∧ w3.ownsRow 0 3 1 (.slice ao (nd h.T (wk h.bs t)).ags.length cap) (nd h.T (wk h.bs t)).ags.length (intsV (nd h.T (wk h.bs t)).ags)) := fun w3 c h3 => hp_args h3 _ hrl
  have hin := H.ags _ hrl
  have hl4 := h4 _ hrl
  have HI := hide hI
  have HG := hide hg
  clear hI hg h4
  generalize wk h.bs t = r at *
  obtain ⟨l, hl⟩ : ∃ l, l = (nd h.T r).ags := ⟨_, rfl⟩
  rw [← hl] at hin hl4 HA ⊢
  rw [hk] at HC
  have HL := hide hl
  clear hl hk H
  have hv' : ((r : Int) == (v : Int)) = false := by
    simp only [beq_eq_false_iff_ne, ne_eq]
    omega
  obtain ⟨R, hR⟩ : ∃ R, R = anyS g l (h.cost + 1) := ⟨_, rfl⟩
  rw [← hR]
  have HR := hide hR
  clear hR
  go_enter Tryz.func222, Tryz.ntmps222
  go_wp2_with (first | (go_at_call 88; refine hsp.mono ?_; rintro e w2 ⟨rfl, nn, rfl⟩; have h2 := h1.below (below_drewN (Below.refl _ _) nn); obtain ⟨g0, cap0, g4, cap4, c0, c4, a0, b0, a4, b4, l0, l4, k0, k4⟩ := HC.out _ h2; have hf2 := hf1.trans (HFr.of_below (below_drewN (Below.refl _ _) nn))) | (go_at_call 98; refine (HW.out _ h2).mono ?_; rintro e w3 ⟨rfl, rfl⟩))
  go_loopg [8, 9] (l.length + 1) (fun g' i _ wr => ∃ (j : Nat) (c : Int), i = .int .i64 j ∧ j ≤ l.length ∧ l.length - j < g' ∧ HpIn wr hb V avs most { h with cost := c } ∧ HFr hb V V w wr ∧ h.cost + 1 ≤ c ∧ c ≤ max (h.cost + 1) M + j ∧ anyS g (l.drop j) c = R)
  case atStart => exact ⟨0, h.cost + 1, rfl, Nat.zero_le _, by omega, h2, hf2, by omega, by omega, HR.out.symm⟩
  case round =>
    clear c0 c4 k0 k4 c6 f6 hsp
    obtain ⟨j, c, rfl, hj, hgj, h3, hf3, hlo, hhi, hany⟩ := hrel
    have HF3 := hide hf3
    clear hf3
    obtain ⟨g3, p3, ao, cap, c3, a3, b3, l3, k3, o3⟩ := HA.out _ _ h3
    have hhz3 := h3.tab.H.lt_size
    by_cases hjl : j < l.length
    · obtain ⟨g5, cap5, e5, a5, b5, l5, j5, k5⟩ := own_cell (j := j) (u := .int .i64 l[j]) o3 (by simp [intsV, hjl])
      cases e5
      rw [anyS_drop hjl] at hany
      have hin1 := hin l[j] (List.getElem_mem hjl)
      have hgb := HG.out l[j] c
      have hcall := HI.out wr c l[j] h3 hlo (by omega) hin1
      obtain ⟨b, c', hbc⟩ : ∃ b c', g l[j] c = (b, c') := ⟨_, _, rfl⟩
      rw [hbc] at hany hcall hgb
      have HANY := hide hany
      clear hany hbc o3
      cases b with
      | true =>
        go_wp2_with (go_at_call 222; refine hcall.mono ?_; rintro e w4 ⟨rfl, h4, hf4⟩)
        go_ret
        have e := HANY.out
        simp only [if_true] at e
        rw [← e]
        exact ⟨rfl, h4, HF3.out.trans hf4⟩
      | false =>
        go_wp2_with (go_at_call 222; refine hcall.mono ?_; rintro e w4 ⟨rfl, h4, hf4⟩)
        go_roundg (l.length - j)
        case measure => exact hgj
        case rel => exact ⟨j + 1, c', rfl, hjl, by omega, h4, HF3.out.trans hf4, by omega, by omega, by simpa using HANY.out⟩
    · have hjq : j = l.length := by omega
      go_wp2_with fail
      go_ret
      rw [hjq, List.drop_length] at hany
      rw [← hany]
      exact ⟨rfl, h3, HF3.out⟩
theorem in_x {hb : Nat} {V : _root_.Fin 6 → Value} {avs : List Value} {most : Int} (v : Nat) (hm : most ≤ 1000000000) : ∀ (f : Nat) {w : World} {h : Hp} (_ : HpIn w hb V avs most h) (_ : Four h.T) (_ : 0 ≤ h.cost) (_ : h.cost ≤ 1000000000000) (_ : most ≤ h.cost + f) (_ : f ≤ 1000000000) (t : Nat) (_ : t < h.T.length),
    Calls Tryz.prog 222 #[.pointer (some ⟨hb, 0, none⟩), .int .i64 v, .int .i64 t] w fun e w' => InPost hb V avs most h w (inS h.T h.bs h.err most v f t h.cost) e w'
  | 0, w, h, H, h4, hc0, hc, hf, hfm, t, ht => by
    simp only [inS]
    exact in_spent H hc0 hc v t (by simp only [spentB, Bool.or_eq_true, decide_eq_true_eq]; left; omega)
  | f + 1, w, h, H, h4, hc0, hc, hf, hfm, t, ht => by
    simp only [inS]
    split
    · rename_i hs
      exact in_spent H hc0 hc v t hs
    · rename_i hs
      have hs' : spentB (h.cost + 1) most h.err = false := by simpa using hs
      have hcm : h.cost + 1 ≤ most := by
        simp only [spentB, Bool.or_eq_true, decide_eq_true_eq, not_or] at hs
        omega
      by_cases hv : wk h.bs t = v
      · rw [if_pos hv]
        have := in_leaf H hc0 hc v t ht hs' (fun q => absurd hv q)
        rw [decide_eq_true hv] at this
        exact this
      · rw [if_neg hv]
        by_cases hk : (nd h.T (wk h.bs t)).k = 99
        · rw [if_pos hk]
          refine in_cmp H h4 hc0 hc v t ht hs' hv hk (M := most + 1 + 4 * f) (fun a c => inS_cost (Four.all h4) f a c) (fun w2 c u h2 hlo hhi hu => ?_)
          exact in_x v hm f h2 h4 (by show 0 ≤ c; omega) (by show c ≤ _; omega) (by show most ≤ c + f; omega) (by omega) u hu
        · rw [if_neg hk]
          have := in_leaf H hc0 hc v t ht hs' (fun _ => hk)
          rw [decide_eq_false hv] at this
          exact this
def fuelOf (most c : Int) : Nat := (most - c).toNat
def setS (most : Int) (h : Hp) (v t : Nat) : Bool × Hp :=
  let r := inS h.T h.bs h.err most v (fuelOf most h.cost) t h.cost
  if r.1 then (false, { h with cost := r.2 }) else (true, ({ h with cost := r.2 } : Hp).bind v t)
def HpPost (hb : Nat) (V : _root_.Fin 6 → Value) (avs : List Value) (most : Int) (w : World) (r : Bool × Hp) (e : Ending) (w' : World) : Prop :=
  e = .returned (.bool r.1) ∧ ∃ V', HpIn w' hb V' avs most r.2 ∧ HFr hb V V' w w' ∧ V' 3 = V 3
theorem setS_cost {most : Int} {h : Hp} (h4 : Four h.T) (v t : Nat) : (setS most h v t).2.T = h.T ∧ (setS most h v t).2.err = h.err ∧ h.cost + 1 ≤ (setS most h v t).2.cost ∧ (setS most h v t).2.cost ≤ max (h.cost + 1) (most + 1 + 4 * fuelOf most h.cost) := by
  have hc := inS_cost (T := h.T) (bs := h.bs) (err := h.err) (most := most) (v := v) (Four.all h4) (fuelOf most h.cost) t h.cost
  simp only [setS]
  split
  · exact ⟨rfl, rfl, hc.1, hc.2⟩
  · exact ⟨rfl, rfl, hc.1, hc.2⟩
theorem set_x {w : World} {hb : Nat} {V : _root_.Fin 6 → Value} {avs : List Value} {most : Int} {h : Hp} (H : HpIn w hb V avs most h) (h4 : Four h.T) (hc0 : 0 ≤ h.cost) (hc : h.cost ≤ 1000000000000) (hm : most ≤ 1000000000)
    (v t : Nat) (hv : v < h.T.length) (ht : t < h.T.length) (hne : v ≠ t) (h1 : toOf h.bs v = none) (h2 : toOf h.bs t = none) (hk : (nd h.T v).k = 118) :
    Calls Tryz.prog 177 #[.pointer (some ⟨hb, 0, none⟩), .int .i64 v, .int .i64 t] w fun e w' => HpPost hb V avs most w (setS most h v t) e w' := by
  have hI := in_x v hm (fuelOf most h.cost) H h4 hc0 hc (by unfold fuelOf; omega) (by unfold fuelOf; omega) t ht
  have hS : setS most h v t = (let r := inS h.T h.bs h.err most v (fuelOf most h.cost) t h.cost; if r.1 then (false, { h with cost := r.2 }) else (true, ({ h with cost := r.2 } : Hp).bind v t)) := rfl
  rw [hS]
  obtain ⟨b, c, hbc⟩ : ∃ b c, inS h.T h.bs h.err most v (fuelOf most h.cost) t h.cost = (b, c) := ⟨_, _, rfl⟩
  rw [hbc] at hI ⊢
  have HB : Hid (∀ w2, HpIn w2 hb V avs most { h with cost := c } → Calls Tryz.prog 223 #[.pointer (some ⟨hb, 0, none⟩), .int .i64 v, .int .i64 t] w2 fun e w' => e = .returned (.tuple #[]) ∧ ∃ V', HpIn w' hb V' avs most (({ h with cost := c } : Hp).bind v t) ∧ HFr hb V V' w2 w' ∧ V' 3 = V 3) :=
    fun w2 g2 => bind_x g2 v t hv ht hne h1 h2 hk
  clear hbc hS H
  cases b with
  | true =>
    go_enter Tryz.func177, Tryz.ntmps177
    go_wp2_with (go_at_call 222; refine hI.mono ?_; rintro e w2 ⟨rfl, g2, f2⟩)
    go_ret
    exact ⟨rfl, V, g2, f2, rfl⟩
  | false =>
    go_enter Tryz.func177, Tryz.ntmps177
    go_wp2_with (first | (go_at_call 222; refine hI.mono ?_; rintro e w2 ⟨rfl, g2, f2⟩) | (go_at_call 223; refine (HB.out _ g2).mono ?_; rintro e w3 ⟨rfl, V3, g3, f3, v3⟩))
    go_ret
    exact ⟨rfl, V3, g3, f2.trans f3, v3⟩
theorem hp_rows {w : World} {hb : Nat} {V : _root_.Fin 6 → Value} {avs : List Value} {most : Int} {h : Hp} (H : HpIn w hb V avs most h) (a : Nat) (ha : a < h.T.length) :
    ∃ g0 p0 g1 p1 g2 p2 g3 p3, w.cell? ⟨hb, 0, none⟩ = some (.slice (some ⟨g0, 0, none⟩) h.T.length p0) ∧ h.T.length ≤ p0 ∧
      w.cell? ⟨hb, 1, none⟩ = some (.slice (some ⟨g1, 0, none⟩) h.T.length p1) ∧ h.T.length ≤ p1 ∧
      w.cell? ⟨hb, 2, none⟩ = some (.slice (some ⟨g2, 0, none⟩) h.T.length p2) ∧ h.T.length ≤ p2 ∧
      w.cell? ⟨hb, 3, none⟩ = some (.slice (some ⟨g3, 0, none⟩) h.T.length p3) ∧ h.T.length ≤ p3 ∧
      ∀ t, t < h.T.length → w.cell? ⟨g0, t, none⟩ = some (.int .u8 (nd h.T t).k) ∧ w.cell? ⟨g1, t, none⟩ = some (.string (nd h.T t).nm) ∧ w.cell? ⟨g2, t, none⟩ = some (.int .i64 (nd h.T t).n) ∧
        ∃ ao cap, w.cell? ⟨g3, t, none⟩ = some (.slice ao (nd h.T t).ags.length cap) ∧ w.ownsRow 0 3 1 (.slice ao (nd h.T t).ags.length cap) (nd h.T t).ags.length (intsV (nd h.T t).ags) := by
  have la := H.tab.la
  have haa : a < avs.length := by rw [la]; exact ha
  have e : ∀ t (ht : t < h.T.length), nd h.T t = h.T[t] := fun t ht => by simp [nd, ht]
  have q0 : ∀ t (ht : t < h.T.length), (tabC h.T avs (tosOf h.T.length h.bs) (trOf h.bs) 0)[t]? = some (.int .u8 (nd h.T t).k) := fun t ht => by rw [e t ht]; simp [tabC, ht]
  have q1 : ∀ t (ht : t < h.T.length), (tabC h.T avs (tosOf h.T.length h.bs) (trOf h.bs) 1)[t]? = some (.string (nd h.T t).nm) := fun t ht => by rw [e t ht]; simp [tabC, ht]
  have q2 : ∀ t (ht : t < h.T.length), (tabC h.T avs (tosOf h.T.length h.bs) (trOf h.bs) 2)[t]? = some (.int .i64 (nd h.T t).n) := fun t ht => by rw [e t ht]; simp [tabC, ht]
  have x0 : (tabC h.T avs (tosOf h.T.length h.bs) (trOf h.bs) 0).length = h.T.length := by simp [tabC]
  have x1 : (tabC h.T avs (tosOf h.T.length h.bs) (trOf h.bs) 1).length = h.T.length := by simp [tabC]
  have x2 : (tabC h.T avs (tosOf h.T.length h.bs) (trOf h.bs) 2).length = h.T.length := by simp [tabC]
  obtain ⟨g0, p0, e0, a0, _⟩ := own_cell (H.tab.H.own 0) (q0 a ha)
  obtain ⟨g1, p1, e1, a1, _⟩ := own_cell (H.tab.H.own 1) (q1 a ha)
  obtain ⟨g2, p2, e2, a2, _⟩ := own_cell (H.tab.H.own 2) (q2 a ha)
  obtain ⟨g3, p3, _, _, c3, a3, _, _, _, _⟩ := hp_args H a ha
  rw [x0] at e0 a0
  rw [x1] at e1 a1
  rw [x2] at e2 a2
  have c0 : w.cell? ⟨hb, 0, none⟩ = some (V 0) := H.tab.H.c 0
  have c1 : w.cell? ⟨hb, 1, none⟩ = some (V 1) := H.tab.H.c 1
  have c2 : w.cell? ⟨hb, 2, none⟩ = some (V 2) := H.tab.H.c 2
  refine ⟨g0, p0, g1, p1, g2, p2, g3, p3, by rw [c0, e0], a0, by rw [c1, e1], a1, by rw [c2, e2], a2, c3, a3, fun t ht => ?_⟩
  obtain ⟨g0', p0', e0', _, _, _, _, k0⟩ := own_cell (H.tab.H.own 0) (q0 t ht)
  obtain ⟨g1', p1', e1', _, _, _, _, k1⟩ := own_cell (H.tab.H.own 1) (q1 t ht)
  obtain ⟨g2', p2', e2', _, _, _, _, k2⟩ := own_cell (H.tab.H.own 2) (q2 t ht)
  obtain ⟨g3', p3', ao, cap, c3', _, _, _, k3, o3⟩ := hp_args H t ht
  rw [x0, e0] at e0'; cases e0'
  rw [x1, e1] at e1'; cases e1'
  rw [x2, e2] at e2'; cases e2'
  rw [c3] at c3'; cases c3'
  exact ⟨k0, k1, k2, ao, cap, k3, o3⟩
def sameB (a b : Nd) : Bool := a.k == b.k && (a.nm.toList == b.nm.toList && (a.n == b.n && a.ags.length == b.ags.length))
theorem same_x {w : World} {hb : Nat} {V : _root_.Fin 6 → Value} {avs : List Value} {most : Int} {h : Hp} (H : HpIn w hb V avs most h) (a b : Nat) (ha : a < h.T.length) (hb' : b < h.T.length) :
    Calls Tryz.prog 178 #[.pointer (some ⟨hb, 0, none⟩), .int .i64 a, .int .i64 b] w fun e w' => e = .returned (.bool (sameB (nd h.T a) (nd h.T b))) ∧ ∃ n, w' = w.drewN n := by
  obtain ⟨g0, p0, g1, p1, g2, p2, g3, p3, c0, l0, c1, l1, c2, l2, c3, l3, hall⟩ := hp_rows H a ha
  obtain ⟨ka0, ka1, ka2, aoa, capa, ka3, _⟩ := hall a ha
  obtain ⟨kb0, kb1, kb2, aob, capb, kb3, _⟩ := hall b hb'
  have hz := H.tab.H.lt_size
  have hsm := H.small
  clear hall H
  unfold sameB
  generalize nd h.T a = A at *
  generalize nd h.T b = B' at *
  obtain ⟨k1, m1, n1, s1⟩ := A
  obtain ⟨k2, m2, n2, s2⟩ := B'
  simp only at ka0 ka1 ka2 ka3 kb0 kb1 kb2 kb3 ⊢
  cases h1 : (k1 == k2) with
  | false =>
    go_enter Tryz.func178, Tryz.ntmps178
    go_wp2_with fail
    go_quiet (fail)
    go_wp2_with fail
    go_ret
    exact ⟨rfl, _, rfl⟩
  | true =>
    cases h2 : (m1.toList == m2.toList) with
    | false =>
      go_enter Tryz.func178, Tryz.ntmps178
      go_wp2_with fail
      go_quiet (fail)
      go_wp2_with fail
      go_ret
      exact ⟨rfl, _, rfl⟩
    | true =>
      cases h3 : (n1 == n2) with
      | false =>
        go_enter Tryz.func178, Tryz.ntmps178
        go_wp2_with fail
        go_quiet (fail)
        go_wp2_with fail
        go_ret
        exact ⟨rfl, _, rfl⟩
      | true =>
        have h4 : ((s1.length : Int) == (s2.length : Int)) = (s1.length == s2.length) := by
          by_cases e : s1.length = s2.length
          · rw [e]; simp
          · rw [show (s1.length == s2.length) = false by simpa using e]
            simp only [beq_eq_false_iff_ne, ne_eq]; omega
        go_enter Tryz.func178, Tryz.ntmps178
        go_wp2_with fail
        go_quiet (fail)
        go_wp2_with fail
        go_ret
        exact ⟨by rw [← h4]; rfl, _, rfl⟩
def unifArgs (g : Nat → Nat → Hp → Bool × Hp) : List Nat → List Nat → Hp → Bool × Hp
  | a :: la, b :: lb, h => if (g a b h).1 then unifArgs g la lb (g a b h).2 else (false, (g a b h).2)
  | _, _, h => (true, h)
def Hp.one (h : Hp) : Hp := { h with cost := h.cost + 1 }
def uniS (most : Int) (look : Bool) : Nat → Nat → Nat → Hp → Bool × Hp
  | 0, _, _, h => (false, h.one)
  | f + 1, a, b, h =>
    if spentB (h.cost + 1) most h.err then (false, h.one)
    else if wk h.bs a = wk h.bs b then (true, h.one)
    else if (nd h.T (wk h.bs a)).k = 118 then (if look then (false, h.one) else setS most h.one (wk h.bs a) (wk h.bs b))
    else if (nd h.T (wk h.bs b)).k = 118 then (if look then (false, h.one) else setS most h.one (wk h.bs b) (wk h.bs a))
    else if sameB (nd h.T (wk h.bs a)) (nd h.T (wk h.bs b)) then unifArgs (uniS most look f) (nd h.T (wk h.bs a)).ags (nd h.T (wk h.bs b)).ags h.one
    else (false, h.one)
def Keeps (T : List Nd) (M : Int) (h : Hp) (r : Hp) (n : Nat) : Prop := r.T = T ∧ r.err = h.err ∧ h.cost + n ≤ r.cost ∧ r.cost ≤ max (h.cost + 1) M
theorem unifArgs_keep {T : List Nd} {M : Int} {g : Nat → Nat → Hp → Bool × Hp} (hg : ∀ a b h, h.T = T → 0 ≤ h.cost → Keeps T M h (g a b h).2 1) : ∀ (la lb : List Nat) (h : Hp), h.T = T → 0 ≤ h.cost → (unifArgs g la lb h).2.T = T ∧ (unifArgs g la lb h).2.err = h.err ∧ h.cost ≤ (unifArgs g la lb h).2.cost ∧ (unifArgs g la lb h).2.cost ≤ max h.cost M + la.length
  | [], lb, h, hT, h0 => by simp only [unifArgs, List.length_nil]; exact ⟨hT, trivial, by omega, by omega⟩
  | a :: la, [], h, hT, h0 => by simp only [unifArgs, List.length_cons]; exact ⟨hT, trivial, by omega, by omega⟩
  | a :: la, b :: lb, h, hT, h0 => by
    obtain ⟨k1, k2, k3, k4⟩ := hg a b h hT h0
    simp only [unifArgs, List.length_cons]
    split
    · obtain ⟨r1, r2, r3, r4⟩ := unifArgs_keep hg la lb (g a b h).2 k1 (by omega)
      exact ⟨r1, by rw [r2, k2], by omega, by omega⟩
    · exact ⟨k1, k2, by simp only; omega, by simp only; omega⟩
theorem uniS_keep {T : List Nd} {most : Int} {look : Bool} (h4 : Four T) : ∀ (f a b : Nat) (h : Hp), h.T = T → 0 ≤ h.cost → Keeps T (5 * most + 1 + 4 * f) h (uniS most look f a b h).2 1
  | 0, a, b, h, hT, h0 => ⟨hT, rfl, Int.le_refl _, by show h.cost + 1 ≤ _; omega⟩
  | f + 1, a, b, h, hT, h0 => by
    have one : Keeps T (5 * most + 1 + 4 * (f + 1 : Nat)) h h.one 1 := ⟨hT, rfl, Int.le_refl _, by show h.cost + 1 ≤ _; omega⟩
    simp only [uniS]
    split
    · exact one
    · rename_i hs
      have hcm : h.cost + 1 ≤ most := by
        simp only [spentB, Bool.or_eq_true, decide_eq_true_eq, not_or] at hs
        omega
      have st : ∀ v t, Keeps T (5 * most + 1 + 4 * (f + 1 : Nat)) h (setS most h.one v t).2 1 := fun v t => by
        have h4' : Four h.one.T := by show Four h.T; rw [hT]; exact h4
        obtain ⟨s1, s2, s3, s4⟩ := setS_cost (most := most) h4' v t
        have e1 : h.one.cost = h.cost + 1 := rfl
        rw [e1] at s3 s4
        have e2 : fuelOf most (h.cost + 1) = most - (h.cost + 1) := by unfold fuelOf; omega
        rw [e2] at s4
        exact ⟨s1.trans hT, s2, by omega, by omega⟩
      split
      · exact one
      · split
        · split
          · exact one
          · exact st _ _
        · split
          · split
            · exact one
            · exact st _ _
          · split
            · obtain ⟨r1, r2, r3, r4⟩ := unifArgs_keep (M := 5 * most + 1 + 4 * f) (fun a b h hT h0 => uniS_keep (look := look) h4 f a b h hT h0) (nd h.T (wk h.bs a)).ags (nd h.T (wk h.bs b)).ags h.one hT (by show 0 ≤ h.cost + 1; omega)
              have e1 : h.one.cost = h.cost + 1 := rfl
              rw [e1] at r3 r4
              have hl := Four.all h4 (wk h.bs a)
              rw [← hT] at hl
              exact ⟨r1, r2, by omega, by omega⟩
            · exact one
theorem uni_spent {w : World} {hb : Nat} {V : _root_.Fin 6 → Value} {avs : List Value} {most : Int} {h : Hp} (H : HpIn w hb V avs most h) (hc0 : 0 ≤ h.cost) (hc : h.cost ≤ 1000000000000) (a b : Nat) (look : Bool) (hs : spentB (h.cost + 1) most h.err = true) :
    Calls Tryz.prog 136 #[.pointer (some ⟨hb, 0, none⟩), .int .i64 a, .int .i64 b, .bool look] w fun e w' => HpPost hb V avs most w (false, h.one) e w' := by
  have c6 : w.cell? ⟨hb, 6, none⟩ = some (.int .i64 h.cost) := H.tab.H.c 6
  have f6 := H.tab.H.fz 6
  have hhz := H.tab.H.lt_size
  obtain ⟨h1, hf1⟩ := H.count (h.cost + 1)
  have hsp := spent_x h1.tab.H
  rw [show (decide (most < h.cost + 1) || !(h.err == 0)) = true from hs] at hsp
  go_enter Tryz.func136, Tryz.ntmps136
  go_wp2_with (go_at_call 88; refine hsp.mono ?_; rintro e w2 ⟨rfl, nn, rfl⟩; have h2 := h1.below (below_drewN (Below.refl _ _) nn))
  go_ret
  exact ⟨rfl, V, h2, hf1.trans (HFr.of_below (below_drewN (Below.refl _ _) nn)), rfl⟩
theorem uni_eq {w : World} {hb : Nat} {V : _root_.Fin 6 → Value} {avs : List Value} {most : Int} {h : Hp} (H : HpIn w hb V avs most h) (hc0 : 0 ≤ h.cost) (hc : h.cost ≤ 1000000000000) (a b : Nat) (look : Bool) (ha : a < h.T.length) (hb' : b < h.T.length) (hs : spentB (h.cost + 1) most h.err = false) (he : wk h.bs a = wk h.bs b) :
    Calls Tryz.prog 136 #[.pointer (some ⟨hb, 0, none⟩), .int .i64 a, .int .i64 b, .bool look] w fun e w' => HpPost hb V avs most w (true, h.one) e w' := by
  have c6 : w.cell? ⟨hb, 6, none⟩ = some (.int .i64 h.cost) := H.tab.H.c 6
  have f6 := H.tab.H.fz 6
  have hhz := H.tab.H.lt_size
  have hsm := H.small
  obtain ⟨h1, hf1⟩ := H.count (h.cost + 1)
  have hsp := spent_x h1.tab.H
  rw [show (decide (most < h.cost + 1) || !(h.err == 0)) = false from hs] at hsp
  have hal := wk_lt H.ok a ha
  have hbl := wk_lt H.ok b hb'
  have HWA : Hid (∀ w3, HpIn w3 hb V avs most { h with cost := h.cost + 1 } → Calls Tryz.prog 98 #[.pointer (some ⟨hb, 0, none⟩), .int .i64 a] w3 fun e w' => e = .returned (.int .i64 (wk h.bs a)) ∧ w' = w3) := fun w3 h3 => walk_x h3 a ha
  have HWB : Hid (∀ w3, HpIn w3 hb V avs most { h with cost := h.cost + 1 } → Calls Tryz.prog 98 #[.pointer (some ⟨hb, 0, none⟩), .int .i64 b] w3 fun e w' => e = .returned (.int .i64 (wk h.bs b)) ∧ w' = w3) := fun w3 h3 => walk_x h3 b hb'
  have HC : Hid (∀ w3, HpIn w3 hb V avs most { h with cost := h.cost + 1 } → ∃ g0 cap0, w3.cell? ⟨hb, 0, none⟩ = some (.slice (some ⟨g0, 0, none⟩) h.T.length cap0) ∧ h.T.length ≤ cap0 ∧ g0 < w3.heap.size ∧ w3.cell? ⟨g0, wk h.bs a, none⟩ = some (.int .u8 (nd h.T (wk h.bs a)).k) ∧ w3.cell? ⟨g0, wk h.bs b, none⟩ = some (.int .u8 (nd h.T (wk h.bs b)).k)) := fun w3 h3 => by
    obtain ⟨g0, p0, _, _, c0, _, l0, _, _, _, l5, _, k0, _⟩ := hp_cells h3 _ hal
    obtain ⟨g0', p0', _, _, c0', _, _, _, _, _, _, _, k0', _⟩ := hp_cells h3 _ hbl
    rw [c0] at c0'; cases c0'
    exact ⟨g0, p0, c0, l0, l5, k0, k0'⟩
  rw [← he] at HWB HC
  generalize wk h.bs a = ra at *
  go_enter Tryz.func136, Tryz.ntmps136
  go_wp2_with (first | (go_at_call 88; refine hsp.mono ?_; rintro e w2 ⟨rfl, nn, rfl⟩; have h2 := h1.below (below_drewN (Below.refl _ _) nn); have hf2 := hf1.trans (HFr.of_below (below_drewN (Below.refl _ _) nn)); obtain ⟨g0, cap0, c0, a0, l0, hka, hkb⟩ := HC.out _ h2) | (go_at_call 98; first | (refine (HWA.out _ h2).mono ?_; rintro e w3 ⟨rfl, rfl⟩; clear HWA) | (refine (HWB.out _ h2).mono ?_; rintro e w3 ⟨rfl, rfl⟩)))
  go_ret
  exact ⟨rfl, V, h2, hf2, rfl⟩
theorem uni_look_a {w : World} {hb : Nat} {V : _root_.Fin 6 → Value} {avs : List Value} {most : Int} {h : Hp} (H : HpIn w hb V avs most h) (hc0 : 0 ≤ h.cost) (hc : h.cost ≤ 1000000000000) (a b : Nat) (ha : a < h.T.length) (hb' : b < h.T.length) (hs : spentB (h.cost + 1) most h.err = false) (hne : wk h.bs a ≠ wk h.bs b) (hk : (nd h.T (wk h.bs a)).k = 118) :
    Calls Tryz.prog 136 #[.pointer (some ⟨hb, 0, none⟩), .int .i64 a, .int .i64 b, .bool true] w fun e w' => HpPost hb V avs most w (false, h.one) e w' := by
  have c6 : w.cell? ⟨hb, 6, none⟩ = some (.int .i64 h.cost) := H.tab.H.c 6
  have f6 := H.tab.H.fz 6
  have hhz := H.tab.H.lt_size
  have hsm := H.small
  obtain ⟨h1, hf1⟩ := H.count (h.cost + 1)
  have hsp := spent_x h1.tab.H
  rw [show (decide (most < h.cost + 1) || !(h.err == 0)) = false from hs] at hsp
  have hal := wk_lt H.ok a ha
  have hbl := wk_lt H.ok b hb'
  have HWA : Hid (∀ w3, HpIn w3 hb V avs most { h with cost := h.cost + 1 } → Calls Tryz.prog 98 #[.pointer (some ⟨hb, 0, none⟩), .int .i64 a] w3 fun e w' => e = .returned (.int .i64 (wk h.bs a)) ∧ w' = w3) := fun w3 h3 => walk_x h3 a ha
  have HWB : Hid (∀ w3, HpIn w3 hb V avs most { h with cost := h.cost + 1 } → Calls Tryz.prog 98 #[.pointer (some ⟨hb, 0, none⟩), .int .i64 b] w3 fun e w' => e = .returned (.int .i64 (wk h.bs b)) ∧ w' = w3) := fun w3 h3 => walk_x h3 b hb'
  have HC : Hid (∀ w3, HpIn w3 hb V avs most { h with cost := h.cost + 1 } → ∃ g0 cap0, w3.cell? ⟨hb, 0, none⟩ = some (.slice (some ⟨g0, 0, none⟩) h.T.length cap0) ∧ h.T.length ≤ cap0 ∧ g0 < w3.heap.size ∧ w3.cell? ⟨g0, wk h.bs a, none⟩ = some (.int .u8 (nd h.T (wk h.bs a)).k) ∧ w3.cell? ⟨g0, wk h.bs b, none⟩ = some (.int .u8 (nd h.T (wk h.bs b)).k)) := fun w3 h3 => by
    obtain ⟨g0, p0, _, _, c0, _, l0, _, _, _, l5, _, k0, _⟩ := hp_cells h3 _ hal
    obtain ⟨g0', p0', _, _, c0', _, _, _, _, _, _, _, k0', _⟩ := hp_cells h3 _ hbl
    rw [c0] at c0'; cases c0'
    exact ⟨g0, p0, c0, l0, l5, k0, k0'⟩
  rw [hk] at HC
  clear hk
  generalize wk h.bs a = ra at *
  generalize wk h.bs b = rb at *
  have hne' : ((ra : Int) == (rb : Int)) = false := by
    simp only [beq_eq_false_iff_ne, ne_eq]
    omega
  go_enter Tryz.func136, Tryz.ntmps136
  go_wp2_with (first | (go_at_call 88; refine hsp.mono ?_; rintro e w2 ⟨rfl, nn, rfl⟩; have h2 := h1.below (below_drewN (Below.refl _ _) nn); have hf2 := hf1.trans (HFr.of_below (below_drewN (Below.refl _ _) nn)); obtain ⟨g0, cap0, c0, a0, l0, hka, hkb⟩ := HC.out _ h2) | (go_at_call 98; first | (refine (HWA.out _ h2).mono ?_; rintro e w3 ⟨rfl, rfl⟩; clear HWA) | (refine (HWB.out _ h2).mono ?_; rintro e w3 ⟨rfl, rfl⟩)))
  go_ret
  exact ⟨rfl, V, h2, hf2, rfl⟩
theorem uni_look_b {w : World} {hb : Nat} {V : _root_.Fin 6 → Value} {avs : List Value} {most : Int} {h : Hp} (H : HpIn w hb V avs most h) (hc0 : 0 ≤ h.cost) (hc : h.cost ≤ 1000000000000) (a b : Nat) (ha : a < h.T.length) (hb' : b < h.T.length) (hs : spentB (h.cost + 1) most h.err = false) (hne : wk h.bs a ≠ wk h.bs b) (hk0 : (nd h.T (wk h.bs a)).k ≠ 118) (hk : (nd h.T (wk h.bs b)).k = 118) :
    Calls Tryz.prog 136 #[.pointer (some ⟨hb, 0, none⟩), .int .i64 a, .int .i64 b, .bool true] w fun e w' => HpPost hb V avs most w (false, h.one) e w' := by
  have c6 : w.cell? ⟨hb, 6, none⟩ = some (.int .i64 h.cost) := H.tab.H.c 6
  have f6 := H.tab.H.fz 6
  have hhz := H.tab.H.lt_size
  have hsm := H.small
  obtain ⟨h1, hf1⟩ := H.count (h.cost + 1)
  have hsp := spent_x h1.tab.H
  rw [show (decide (most < h.cost + 1) || !(h.err == 0)) = false from hs] at hsp
  have hal := wk_lt H.ok a ha
  have hbl := wk_lt H.ok b hb'
  have HWA : Hid (∀ w3, HpIn w3 hb V avs most { h with cost := h.cost + 1 } → Calls Tryz.prog 98 #[.pointer (some ⟨hb, 0, none⟩), .int .i64 a] w3 fun e w' => e = .returned (.int .i64 (wk h.bs a)) ∧ w' = w3) := fun w3 h3 => walk_x h3 a ha
  have HWB : Hid (∀ w3, HpIn w3 hb V avs most { h with cost := h.cost + 1 } → Calls Tryz.prog 98 #[.pointer (some ⟨hb, 0, none⟩), .int .i64 b] w3 fun e w' => e = .returned (.int .i64 (wk h.bs b)) ∧ w' = w3) := fun w3 h3 => walk_x h3 b hb'
  have HC : Hid (∀ w3, HpIn w3 hb V avs most { h with cost := h.cost + 1 } → ∃ g0 cap0, w3.cell? ⟨hb, 0, none⟩ = some (.slice (some ⟨g0, 0, none⟩) h.T.length cap0) ∧ h.T.length ≤ cap0 ∧ g0 < w3.heap.size ∧ w3.cell? ⟨g0, wk h.bs a, none⟩ = some (.int .u8 (nd h.T (wk h.bs a)).k) ∧ w3.cell? ⟨g0, wk h.bs b, none⟩ = some (.int .u8 (nd h.T (wk h.bs b)).k)) := fun w3 h3 => by
    obtain ⟨g0, p0, _, _, c0, _, l0, _, _, _, l5, _, k0, _⟩ := hp_cells h3 _ hal
    obtain ⟨g0', p0', _, _, c0', _, _, _, _, _, _, _, k0', _⟩ := hp_cells h3 _ hbl
    rw [c0] at c0'; cases c0'
    exact ⟨g0, p0, c0, l0, l5, k0, k0'⟩
  rw [hk] at HC
  generalize (nd h.T (wk h.bs a)).k = ka at *
  have hk0' : (ka == 118) = false := by simpa using hk0
  clear hk
  generalize wk h.bs a = ra at *
  generalize wk h.bs b = rb at *
  have hne' : ((ra : Int) == (rb : Int)) = false := by
    simp only [beq_eq_false_iff_ne, ne_eq]
    omega
  go_enter Tryz.func136, Tryz.ntmps136
  go_wp2_with (first | (go_at_call 88; refine hsp.mono ?_; rintro e w2 ⟨rfl, nn, rfl⟩; have h2 := h1.below (below_drewN (Below.refl _ _) nn); have hf2 := hf1.trans (HFr.of_below (below_drewN (Below.refl _ _) nn)); obtain ⟨g0, cap0, c0, a0, l0, hka, hkb⟩ := HC.out _ h2) | (go_at_call 98; first | (refine (HWA.out _ h2).mono ?_; rintro e w3 ⟨rfl, rfl⟩; clear HWA) | (refine (HWB.out _ h2).mono ?_; rintro e w3 ⟨rfl, rfl⟩)))
  go_ret
  exact ⟨rfl, V, h2, hf2, rfl⟩
theorem uni_set_a {w : World} {hb : Nat} {V : _root_.Fin 6 → Value} {avs : List Value} {most : Int} {h : Hp} (H : HpIn w hb V avs most h) (hc0 : 0 ≤ h.cost) (hc : h.cost ≤ 1000000000000) (a b : Nat) (h4 : Four h.T) (hm : most ≤ 1000000000) (hcm : h.cost + 1 ≤ most) (ha : a < h.T.length) (hb' : b < h.T.length) (hs : spentB (h.cost + 1) most h.err = false) (hne : wk h.bs a ≠ wk h.bs b) (hk : (nd h.T (wk h.bs a)).k = 118) :
    Calls Tryz.prog 136 #[.pointer (some ⟨hb, 0, none⟩), .int .i64 a, .int .i64 b, .bool false] w fun e w' => HpPost hb V avs most w (setS most h.one (wk h.bs a) (wk h.bs b)) e w' := by
  have c6 : w.cell? ⟨hb, 6, none⟩ = some (.int .i64 h.cost) := H.tab.H.c 6
  have f6 := H.tab.H.fz 6
  have hhz := H.tab.H.lt_size
  have hsm := H.small
  obtain ⟨h1, hf1⟩ := H.count (h.cost + 1)
  have hsp := spent_x h1.tab.H
  rw [show (decide (most < h.cost + 1) || !(h.err == 0)) = false from hs] at hsp
  have hal := wk_lt H.ok a ha
  have hbl := wk_lt H.ok b hb'
  have HWA : Hid (∀ w3, HpIn w3 hb V avs most { h with cost := h.cost + 1 } → Calls Tryz.prog 98 #[.pointer (some ⟨hb, 0, none⟩), .int .i64 a] w3 fun e w' => e = .returned (.int .i64 (wk h.bs a)) ∧ w' = w3) := fun w3 h3 => walk_x h3 a ha
  have HWB : Hid (∀ w3, HpIn w3 hb V avs most { h with cost := h.cost + 1 } → Calls Tryz.prog 98 #[.pointer (some ⟨hb, 0, none⟩), .int .i64 b] w3 fun e w' => e = .returned (.int .i64 (wk h.bs b)) ∧ w' = w3) := fun w3 h3 => walk_x h3 b hb'
  have HC : Hid (∀ w3, HpIn w3 hb V avs most { h with cost := h.cost + 1 } → ∃ g0 cap0, w3.cell? ⟨hb, 0, none⟩ = some (.slice (some ⟨g0, 0, none⟩) h.T.length cap0) ∧ h.T.length ≤ cap0 ∧ g0 < w3.heap.size ∧ w3.cell? ⟨g0, wk h.bs a, none⟩ = some (.int .u8 (nd h.T (wk h.bs a)).k) ∧ w3.cell? ⟨g0, wk h.bs b, none⟩ = some (.int .u8 (nd h.T (wk h.bs b)).k)) := fun w3 h3 => by
    obtain ⟨g0, p0, _, _, c0, _, l0, _, _, _, l5, _, k0, _⟩ := hp_cells h3 _ hal
    obtain ⟨g0', p0', _, _, c0', _, _, _, _, _, _, _, k0', _⟩ := hp_cells h3 _ hbl
    rw [c0] at c0'; cases c0'
    exact ⟨g0, p0, c0, l0, l5, k0, k0'⟩
  have HS : Hid (∀ w3, HpIn w3 hb V avs most { h with cost := h.cost + 1 } → Calls Tryz.prog 177 #[.pointer (some ⟨hb, 0, none⟩), .int .i64 (wk h.bs a), .int .i64 (wk h.bs b)] w3 fun e w' => HpPost hb V avs most w3 (setS most h.one (wk h.bs a) (wk h.bs b)) e w') := fun w3 h3 => set_x h3 h4 (by show 0 ≤ h.cost + 1; omega) (by show h.cost + 1 ≤ _; omega) hm _ _ hal hbl hne (wk_end H.ok _) (wk_end H.ok _) hk
  rw [hk] at HC
  clear hk
  generalize setS most h.one (wk h.bs a) (wk h.bs b) = R at *
  generalize wk h.bs a = ra at *
  generalize wk h.bs b = rb at *
  have hne' : ((ra : Int) == (rb : Int)) = false := by
    simp only [beq_eq_false_iff_ne, ne_eq]
    omega
  go_enter Tryz.func136, Tryz.ntmps136
  go_wp2_with (first | (go_at_call 88; refine hsp.mono ?_; rintro e w2 ⟨rfl, nn, rfl⟩; have h2 := h1.below (below_drewN (Below.refl _ _) nn); have hf2 := hf1.trans (HFr.of_below (below_drewN (Below.refl _ _) nn)); obtain ⟨g0, cap0, c0, a0, l0, hka, hkb⟩ := HC.out _ h2) | (go_at_call 98; first | (refine (HWA.out _ h2).mono ?_; rintro e w3 ⟨rfl, rfl⟩; clear HWA) | (refine (HWB.out _ h2).mono ?_; rintro e w3 ⟨rfl, rfl⟩)) | (go_at_call 177; refine (HS.out _ h2).mono ?_; rintro e w4 ⟨rfl, V4, h4', f4, v4⟩))
  go_ret
  exact ⟨rfl, V4, h4', hf2.trans f4, v4⟩
theorem uni_set_b {w : World} {hb : Nat} {V : _root_.Fin 6 → Value} {avs : List Value} {most : Int} {h : Hp} (H : HpIn w hb V avs most h) (hc0 : 0 ≤ h.cost) (hc : h.cost ≤ 1000000000000) (a b : Nat) (h4 : Four h.T) (hm : most ≤ 1000000000) (hcm : h.cost + 1 ≤ most) (ha : a < h.T.length) (hb' : b < h.T.length) (hs : spentB (h.cost + 1) most h.err = false) (hne : wk h.bs a ≠ wk h.bs b) (hk0 : (nd h.T (wk h.bs a)).k ≠ 118) (hk : (nd h.T (wk h.bs b)).k = 118) :
    Calls Tryz.prog 136 #[.pointer (some ⟨hb, 0, none⟩), .int .i64 a, .int .i64 b, .bool false] w fun e w' => HpPost hb V avs most w (setS most h.one (wk h.bs b) (wk h.bs a)) e w' := by
  have c6 : w.cell? ⟨hb, 6, none⟩ = some (.int .i64 h.cost) := H.tab.H.c 6
  have f6 := H.tab.H.fz 6
  have hhz := H.tab.H.lt_size
  have hsm := H.small
  obtain ⟨h1, hf1⟩ := H.count (h.cost + 1)
  have hsp := spent_x h1.tab.H
  rw [show (decide (most < h.cost + 1) || !(h.err == 0)) = false from hs] at hsp
  have hal := wk_lt H.ok a ha
  have hbl := wk_lt H.ok b hb'
  have HWA : Hid (∀ w3, HpIn w3 hb V avs most { h with cost := h.cost + 1 } → Calls Tryz.prog 98 #[.pointer (some ⟨hb, 0, none⟩), .int .i64 a] w3 fun e w' => e = .returned (.int .i64 (wk h.bs a)) ∧ w' = w3) := fun w3 h3 => walk_x h3 a ha
  have HWB : Hid (∀ w3, HpIn w3 hb V avs most { h with cost := h.cost + 1 } → Calls Tryz.prog 98 #[.pointer (some ⟨hb, 0, none⟩), .int .i64 b] w3 fun e w' => e = .returned (.int .i64 (wk h.bs b)) ∧ w' = w3) := fun w3 h3 => walk_x h3 b hb'
  have HC : Hid (∀ w3, HpIn w3 hb V avs most { h with cost := h.cost + 1 } → ∃ g0 cap0, w3.cell? ⟨hb, 0, none⟩ = some (.slice (some ⟨g0, 0, none⟩) h.T.length cap0) ∧ h.T.length ≤ cap0 ∧ g0 < w3.heap.size ∧ w3.cell? ⟨g0, wk h.bs a, none⟩ = some (.int .u8 (nd h.T (wk h.bs a)).k) ∧ w3.cell? ⟨g0, wk h.bs b, none⟩ = some (.int .u8 (nd h.T (wk h.bs b)).k)) := fun w3 h3 => by
    obtain ⟨g0, p0, _, _, c0, _, l0, _, _, _, l5, _, k0, _⟩ := hp_cells h3 _ hal
    obtain ⟨g0', p0', _, _, c0', _, _, _, _, _, _, _, k0', _⟩ := hp_cells h3 _ hbl
    rw [c0] at c0'; cases c0'
    exact ⟨g0, p0, c0, l0, l5, k0, k0'⟩
  have HS : Hid (∀ w3, HpIn w3 hb V avs most { h with cost := h.cost + 1 } → Calls Tryz.prog 177 #[.pointer (some ⟨hb, 0, none⟩), .int .i64 (wk h.bs b), .int .i64 (wk h.bs a)] w3 fun e w' => HpPost hb V avs most w3 (setS most h.one (wk h.bs b) (wk h.bs a)) e w') := fun w3 h3 => set_x h3 h4 (by show 0 ≤ h.cost + 1; omega) (by show h.cost + 1 ≤ _; omega) hm _ _ hbl hal (fun q => hne q.symm) (wk_end H.ok _) (wk_end H.ok _) hk
  rw [hk] at HC
  generalize (nd h.T (wk h.bs a)).k = ka at *
  have hk0' : (ka == 118) = false := by simpa using hk0
  clear hk
  generalize setS most h.one (wk h.bs b) (wk h.bs a) = R at *
  generalize wk h.bs a = ra at *
  generalize wk h.bs b = rb at *
  have hne' : ((ra : Int) == (rb : Int)) = false := by
    simp only [beq_eq_false_iff_ne, ne_eq]
    omega
  go_enter Tryz.func136, Tryz.ntmps136
  go_wp2_with (first | (go_at_call 88; refine hsp.mono ?_; rintro e w2 ⟨rfl, nn, rfl⟩; have h2 := h1.below (below_drewN (Below.refl _ _) nn); have hf2 := hf1.trans (HFr.of_below (below_drewN (Below.refl _ _) nn)); obtain ⟨g0, cap0, c0, a0, l0, hka, hkb⟩ := HC.out _ h2) | (go_at_call 98; first | (refine (HWA.out _ h2).mono ?_; rintro e w3 ⟨rfl, rfl⟩; clear HWA) | (refine (HWB.out _ h2).mono ?_; rintro e w3 ⟨rfl, rfl⟩)) | (go_at_call 177; refine (HS.out _ h2).mono ?_; rintro e w4 ⟨rfl, V4, h4', f4, v4⟩))
  go_ret
  exact ⟨rfl, V4, h4', hf2.trans f4, v4⟩
theorem uni_not {w : World} {hb : Nat} {V : _root_.Fin 6 → Value} {avs : List Value} {most : Int} {h : Hp} (H : HpIn w hb V avs most h) (hc0 : 0 ≤ h.cost) (hc : h.cost ≤ 1000000000000) (a b : Nat) (look : Bool) (ha : a < h.T.length) (hb' : b < h.T.length) (hs : spentB (h.cost + 1) most h.err = false) (hne : wk h.bs a ≠ wk h.bs b) (hk0 : (nd h.T (wk h.bs a)).k ≠ 118) (hk1 : (nd h.T (wk h.bs b)).k ≠ 118) (hsame : sameB (nd h.T (wk h.bs a)) (nd h.T (wk h.bs b)) = false) :
    Calls Tryz.prog 136 #[.pointer (some ⟨hb, 0, none⟩), .int .i64 a, .int .i64 b, .bool look] w fun e w' => HpPost hb V avs most w (false, h.one) e w' := by
  have c6 : w.cell? ⟨hb, 6, none⟩ = some (.int .i64 h.cost) := H.tab.H.c 6
  have f6 := H.tab.H.fz 6
  have hhz := H.tab.H.lt_size
  have hsm := H.small
  obtain ⟨h1, hf1⟩ := H.count (h.cost + 1)
  have hsp := spent_x h1.tab.H
  rw [show (decide (most < h.cost + 1) || !(h.err == 0)) = false from hs] at hsp
  have hal := wk_lt H.ok a ha
  have hbl := wk_lt H.ok b hb'
  have HWA : Hid (∀ w3, HpIn w3 hb V avs most { h with cost := h.cost + 1 } → Calls Tryz.prog 98 #[.pointer (some ⟨hb, 0, none⟩), .int .i64 a] w3 fun e w' => e = .returned (.int .i64 (wk h.bs a)) ∧ w' = w3) := fun w3 h3 => walk_x h3 a ha
  have HWB : Hid (∀ w3, HpIn w3 hb V avs most { h with cost := h.cost + 1 } → Calls Tryz.prog 98 #[.pointer (some ⟨hb, 0, none⟩), .int .i64 b] w3 fun e w' => e = .returned (.int .i64 (wk h.bs b)) ∧ w' = w3) := fun w3 h3 => walk_x h3 b hb'
  have HC : Hid (∀ w3, HpIn w3 hb V avs most { h with cost := h.cost + 1 } → ∃ g0 cap0, w3.cell? ⟨hb, 0, none⟩ = some (.slice (some ⟨g0, 0, none⟩) h.T.length cap0) ∧ h.T.length ≤ cap0 ∧ g0 < w3.heap.size ∧ w3.cell? ⟨g0, wk h.bs a, none⟩ = some (.int .u8 (nd h.T (wk h.bs a)).k) ∧ w3.cell? ⟨g0, wk h.bs b, none⟩ = some (.int .u8 (nd h.T (wk h.bs b)).k)) := fun w3 h3 => by
    obtain ⟨g0, p0, _, _, c0, _, l0, _, _, _, l5, _, k0, _⟩ := hp_cells h3 _ hal
    obtain ⟨g0', p0', _, _, c0', _, _, _, _, _, _, _, k0', _⟩ := hp_cells h3 _ hbl
    rw [c0] at c0'; cases c0'
    exact ⟨g0, p0, c0, l0, l5, k0, k0'⟩
  have HSM : Hid (∀ w3, HpIn w3 hb V avs most { h with cost := h.cost + 1 } → Calls Tryz.prog 178 #[.pointer (some ⟨hb, 0, none⟩), .int .i64 (wk h.bs a), .int .i64 (wk h.bs b)] w3 fun e w' => e = .returned (.bool (sameB (nd h.T (wk h.bs a)) (nd h.T (wk h.bs b)))) ∧ ∃ n, w' = w3.drewN n) := fun w3 h3 => same_x h3 _ _ hal hbl
  rw [hsame] at HSM
  clear hsame
  generalize (nd h.T (wk h.bs a)).k = ka at *
  have hk0' : (ka == 118) = false := by simpa using hk0
  generalize (nd h.T (wk h.bs b)).k = kb at *
  have hk1' : (kb == 118) = false := by simpa using hk1
  generalize wk h.bs a = ra at *
  generalize wk h.bs b = rb at *
  have hne' : ((ra : Int) == (rb : Int)) = false := by
    simp only [beq_eq_false_iff_ne, ne_eq]
    omega
  go_enter Tryz.func136, Tryz.ntmps136
  go_wp2_with (first | (go_at_call 88; refine hsp.mono ?_; rintro e w2 ⟨rfl, nn, rfl⟩; have h2 := h1.below (below_drewN (Below.refl _ _) nn); have hf2 := hf1.trans (HFr.of_below (below_drewN (Below.refl _ _) nn)); obtain ⟨g0, cap0, c0, a0, l0, hka, hkb⟩ := HC.out _ h2) | (go_at_call 98; first | (refine (HWA.out _ h2).mono ?_; rintro e w3 ⟨rfl, rfl⟩; clear HWA) | (refine (HWB.out _ h2).mono ?_; rintro e w3 ⟨rfl, rfl⟩)) | (go_at_call 178; refine (HSM.out _ h2).mono ?_; rintro e w4 ⟨rfl, n4, rfl⟩; have h4' := h1.below (below_drewN (Below.refl _ _) (nn + n4)); have hf4 := hf1.trans (HFr.of_below (below_drewN (Below.refl _ _) (nn + n4)))))
  go_ret
  exact ⟨rfl, V, h4', hf4, rfl⟩
end Go.Proofs.YtodpkdajbnceoaaGreatDoor

import Derived.Test.YtodpkdajbnceoaaGreatDoorPart14
import Derived.Deep.RegionHeld
set_option linter.all false
set_option maxHeartbeats 4000000
set_option maxRecDepth 100000
namespace Go.Proofs.YtodpkdajbnceoaaGreatDoor
open Go.RowKit
def UniCall (hb : Nat) (avs : List Value) (most : Int) (T : List Nd) (err : Int) (look : Bool) (g : Nat → Nat → Hp → Bool × Hp) (lo hi : Int) : Prop :=
  ∀ (w : World) (V : _root_.Fin 6 → Value) (h : Hp) (a b : Nat), HpIn w hb V avs most h → h.T = T → h.err = err → lo ≤ h.cost → h.cost ≤ hi → a < T.length → b < T.length →
    Calls Tryz.prog 136 #[.pointer (some ⟨hb, 0, none⟩), .int .i64 a, .int .i64 b, .bool look] w fun e w' => HpPost hb V avs most w (g a b h) e w'
theorem unifArgs_drop {g : Nat → Nat → Hp → Bool × Hp} {la lb : List Nat} {j : Nat} (ha : j < la.length) (hb : j < lb.length) (h : Hp) : unifArgs g (la.drop j) (lb.drop j) h = if (g la[j] lb[j] h).1 then unifArgs g (la.drop (j + 1)) (lb.drop (j + 1)) (g la[j] lb[j] h).2 else (false, (g la[j] lb[j] h).2) := by
  rw [List.drop_eq_getElem_cons ha, List.drop_eq_getElem_cons hb]
  rfl
theorem unifArgs_end {g : Nat → Nat → Hp → Bool × Hp} {la lb : List Nat} (h : Hp) : unifArgs g (la.drop la.length) (lb.drop la.length) h = (true, h) := by
  rw [List.drop_length]
  rfl
theorem rows_same {hb : Nat} {avs : List Value} {most : Int} {T : List Nd} {w3 w5 : World} {V3 V5 : _root_.Fin 6 → Value} {h3 h5 : Hp} (H3 : HpIn w3 hb V3 avs most h3) (H5 : HpIn w5 hb V5 avs most h5) (e3 : h3.T = T) (e5 : h5.T = T) (ev : V5 3 = V3 3) {ra rb g3 p3 g5 ca g6 cb j : Nat} (ha : ra < T.length) (hb' : rb < T.length) (hja : j < (nd T ra).ags.length) (hjb : j < (nd T rb).ags.length)
    (c3 : w3.cell? ⟨hb, 3, none⟩ = some (.slice (some ⟨g3, 0, none⟩) T.length p3)) (ka : w3.cell? ⟨g3, ra, none⟩ = some (.slice (some ⟨g5, 0, none⟩) (nd T ra).ags.length ca)) (kb : w3.cell? ⟨g3, rb, none⟩ = some (.slice (some ⟨g6, 0, none⟩) (nd T rb).ags.length cb)) :
    w5.cell? ⟨hb, 3, none⟩ = some (.slice (some ⟨g3, 0, none⟩) T.length p3) ∧ w5.cell? ⟨g3, ra, none⟩ = some (.slice (some ⟨g5, 0, none⟩) (nd T ra).ags.length ca) ∧ w5.cell? ⟨g3, rb, none⟩ = some (.slice (some ⟨g6, 0, none⟩) (nd T rb).ags.length cb) ∧ w5.cell? ⟨g5, j, none⟩ = some (.int .i64 (nd T ra).ags[j]) ∧ w5.cell? ⟨g6, j, none⟩ = some (.int .i64 (nd T rb).ags[j]) := by
  subst e3
  have d3 : w3.cell? ⟨hb, 3, none⟩ = some (V3 3) := H3.tab.H.c 3
  have d5 : w5.cell? ⟨hb, 3, none⟩ = some (V5 3) := H5.tab.H.c 3
  have hc5 : w5.cell? ⟨hb, 3, none⟩ = some (.slice (some ⟨g3, 0, none⟩) h3.T.length p3) := by rw [d5, ev, ← d3]; exact c3
  have one : ∀ t, t < h3.T.length → w5.cell? ⟨g3, t, none⟩ = w3.cell? ⟨g3, t, none⟩ := fun t ht => by
    have x3 : t < avs.length := by rw [H3.tab.la]; exact ht
    obtain ⟨av, hav⟩ : ∃ av, avs[t]? = some av := ⟨avs[t], by simp [x3]⟩
    obtain ⟨x, p, q1, _, _, _, _, k⟩ := own_cell (j := t) (u := av) (H3.tab.H.own 3) hav
    obtain ⟨x', p', r1, _, _, _, _, k'⟩ := own_cell (j := t) (u := av) (H5.tab.H.own 3) hav
    rw [c3, q1] at d3
    rw [hc5, r1] at d5
    have hx : g3 = x := by
      injection d3 with d
      injection d with d _ _
      injection d with d
      injection d with d
    have hx' : g3 = x' := by
      injection d5 with d
      injection d with d _ _
      injection d with d
      injection d with d
    rw [← hx] at k
    rw [← hx'] at k'
    rw [k, k']
  have el : ∀ t (ht : t < h3.T.length) (x cap j : Nat) (hj : j < (nd h3.T t).ags.length), w5.cell? ⟨g3, t, none⟩ = some (.slice (some ⟨x, 0, none⟩) (nd h3.T t).ags.length cap) → w5.cell? ⟨x, j, none⟩ = some (.int .i64 (nd h3.T t).ags[j]) := fun t ht x cap j hj hk => by
    obtain ⟨x', p', ao, cap', r1, r2, r3, r4, r5, r6⟩ := hp_args H5 t (by rw [e5]; exact ht)
    rw [hc5, e5] at r1
    cases r1
    rw [hk] at r5
    rw [e5] at r5 r6
    cases r5
    obtain ⟨y, cy, ey, _, _, _, _, ky⟩ := own_cell (j := j) (u := .int .i64 (nd h3.T t).ags[j]) r6 (by simp [intsV, hj])
    cases ey
    exact ky
  have ka5 := (one ra ha).trans ka
  have kb5 := (one rb hb').trans kb
  exact ⟨hc5, ka5, kb5, el ra ha _ _ _ hja ka5, el rb hb' _ _ _ hjb kb5⟩
theorem uni_args {w : World} {hb : Nat} {V : _root_.Fin 6 → Value} {avs : List Value} {most : Int} {h : Hp} (H : HpIn w hb V avs most h) (hc0 : 0 ≤ h.cost) (hc : h.cost ≤ 1000000000000) (a b : Nat) (look : Bool) (h4 : Four h.T) (ha : a < h.T.length) (hb' : b < h.T.length) (hs : spentB (h.cost + 1) most h.err = false) (hne : wk h.bs a ≠ wk h.bs b) (hk0 : (nd h.T (wk h.bs a)).k ≠ 118) (hk1 : (nd h.T (wk h.bs b)).k ≠ 118) (hsame : sameB (nd h.T (wk h.bs a)) (nd h.T (wk h.bs b)) = true)
    {g : Nat → Nat → Hp → Bool × Hp} {M : Int} (hg : ∀ a b h', h'.T = h.T → 0 ≤ h'.cost → Keeps h.T M h' (g a b h').2 1) (hI : UniCall hb avs most h.T h.err look g (h.cost + 1) (max (h.cost + 1) M + 4)) :
    Calls Tryz.prog 136 #[.pointer (some ⟨hb, 0, none⟩), .int .i64 a, .int .i64 b, .bool look] w fun e w' => HpPost hb V avs most w (unifArgs g (nd h.T (wk h.bs a)).ags (nd h.T (wk h.bs b)).ags h.one) e w' := by
  have c6 : w.cell? ⟨hb, 6, none⟩ = some (.int .i64 h.cost) := H.tab.H.c 6
  have f6 := H.tab.H.fz 6
  have hhz := H.tab.H.lt_size
  have hsm := H.small
  obtain ⟨h1, hf1⟩ := H.count (h.cost + 1)
  have hsp := spent_x h1.tab.H
  rw [show (decide (most < h.cost + 1) || !(h.err == 0)) = false from hs] at hsp
  have hal := wk_lt H.ok a ha
  have hbl := wk_lt H.ok b hb'
  have HWA : Hid (∀ w3, HpIn w3 hb V avs most { h with cost := h.cost + 1 } → Calls Tryz.prog 98 #[.pointer (some ⟨hb, 0, none⟩), .int .i64 a] w3 fun e w' => e = .returned (.int .i64 (wk h.bs a)) ∧ w' = w3) := fun w3 h3 => walk_x h3 a ha
  have HWB : Hid (∀ w3, HpIn w3 hb V avs most { h with cost := h.cost + 1 } → Calls Tryz.prog 98 #[.pointer (some ⟨hb, 0, none⟩), .int .i64 b] w3 fun e w' => e = .returned (.int .i64 (wk h.bs b)) ∧ w' = w3) := fun w3 h3 => walk_x h3 b hb'
  have HC : Hid (∀ w3, HpIn w3 hb V avs most { h with cost := h.cost + 1 } → ∃ g0 cap0, w3.cell? ⟨hb, 0, none⟩ = some (.slice (some ⟨g0, 0, none⟩) h.T.length cap0) ∧ h.T.length ≤ cap0 ∧ g0 < w3.heap.size ∧ w3.cell? ⟨g0, wk h.bs a, none⟩ = some (.int .u8 (nd h.T (wk h.bs a)).k) ∧ w3.cell? ⟨g0, wk h.bs b, none⟩ = some (.int .u8 (nd h.T (wk h.bs b)).k)) := fun w3 h3 => by
    obtain ⟨g0, p0, _, _, c0, _, l0, _, _, _, l5, _, k0, _⟩ := hp_cells h3 _ hal
    obtain ⟨g0', p0', _, _, c0', _, _, _, _, _, _, _, k0', _⟩ := hp_cells h3 _ hbl
    rw [c0] at c0'; cases c0'
    exact ⟨g0, p0, c0, l0, l5, k0, k0'⟩
  have HSM : Hid (∀ w3, HpIn w3 hb V avs most { h with cost := h.cost + 1 } → Calls Tryz.prog 178 #[.pointer (some ⟨hb, 0, none⟩), .int .i64 (wk h.bs a), .int .i64 (wk h.bs b)] w3 fun e w' => e = .returned (.bool (sameB (nd h.T (wk h.bs a)) (nd h.T (wk h.bs b)))) ∧ ∃ n, w' = w3.drewN n) := fun w3 h3 => same_x h3 _ _ hal hbl
  rw [hsame] at HSM
  have hll : (nd h.T (wk h.bs a)).ags.length = (nd h.T (wk h.bs b)).ags.length := by
    simp only [sameB, Bool.and_eq_true, beq_iff_eq] at hsame
    exact hsame.2.2.2
  have HA : Hid (∀ w3 V3 h3, HpIn w3 hb V3 avs most h3 → h3.T = h.T → ∃ g3 p3 aa ca ab cb, w3.cell? ⟨hb, 3, none⟩ = some (.slice (some ⟨g3, 0, none⟩) h.T.length p3) ∧ h.T.length ≤ p3 ∧ g3 < w3.heap.size ∧
      w3.cell? ⟨g3, wk h.bs a, none⟩ = some (.slice aa (nd h.T (wk h.bs a)).ags.length ca) ∧ w3.ownsRow 0 3 1 (.slice aa (nd h.T (wk h.bs a)).ags.length ca) (nd h.T (wk h.bs a)).ags.length (intsV (nd h.T (wk h.bs a)).ags) ∧
      w3.cell? ⟨g3, wk h.bs b, none⟩ = some (.slice ab (nd h.T (wk h.bs b)).ags.length cb) ∧ w3.ownsRow 0 3 1 (.slice ab (nd h.T (wk h.bs b)).ags.length cb) (nd h.T (wk h.bs b)).ags.length (intsV (nd h.T (wk h.bs b)).ags)) := fun w3 V3 h3 g3 e3 => by
    obtain ⟨x, p, aa, ca, q1, q2, q3, q4, q5, q6⟩ := hp_args g3 (wk h.bs a) (by rw [e3]; exact hal)
    obtain ⟨x', p', ab, cb, r1, r2, r3, r4, r5, r6⟩ := hp_args g3 (wk h.bs b) (by rw [e3]; exact hbl)
    rw [q1] at r1; cases r1
    rw [e3] at q1 q2 q5 q6 r5 r6
    exact ⟨x, p, aa, ca, ab, cb, q1, q2, q4, q5, q6, r5, r6⟩
  have HSS : Hid (∀ w3 w5 V3 V5 h3 h5, HpIn w3 hb V3 avs most h3 → HpIn w5 hb V5 avs most h5 → h3.T = h.T → h5.T = h.T → V5 3 = V3 3 → ∀ (g3 p3 g5 ca g6 cb j : Nat) (hja : j < (nd h.T (wk h.bs a)).ags.length) (hjb : j < (nd h.T (wk h.bs b)).ags.length),
      w3.cell? ⟨hb, 3, none⟩ = some (.slice (some ⟨g3, 0, none⟩) h.T.length p3) → w3.cell? ⟨g3, wk h.bs a, none⟩ = some (.slice (some ⟨g5, 0, none⟩) (nd h.T (wk h.bs a)).ags.length ca) → w3.cell? ⟨g3, wk h.bs b, none⟩ = some (.slice (some ⟨g6, 0, none⟩) (nd h.T (wk h.bs b)).ags.length cb) →
      w5.cell? ⟨hb, 3, none⟩ = some (.slice (some ⟨g3, 0, none⟩) h.T.length p3) ∧ w5.cell? ⟨g3, wk h.bs a, none⟩ = some (.slice (some ⟨g5, 0, none⟩) (nd h.T (wk h.bs a)).ags.length ca) ∧ w5.cell? ⟨g3, wk h.bs b, none⟩ = some (.slice (some ⟨g6, 0, none⟩) (nd h.T (wk h.bs b)).ags.length cb) ∧ w5.cell? ⟨g5, j, none⟩ = some (.int .i64 (nd h.T (wk h.bs a)).ags[j]) ∧ w5.cell? ⟨g6, j, none⟩ = some (.int .i64 (nd h.T (wk h.bs b)).ags[j])) :=
    fun w3 w5 V3 V5 h3 h5 H3 H5 e3 e5 ev g3 p3 g5 ca g6 cb j hja hjb c3 ka kb => rows_same H3 H5 e3 e5 ev hal hbl hja hjb c3 ka kb
  have hina := H.ags _ hal
  have hinb := H.ags _ hbl
  have hl4 := h4 _ hal
  have HI := hide hI
  have HG := hide hg
  clear hI hg h4 hsame H
  generalize (nd h.T (wk h.bs a)).k = ka at *
  have hk0' : (ka == 118) = false := by simpa using hk0
  generalize (nd h.T (wk h.bs b)).k = kb at *
  have hk1' : (kb == 118) = false := by simpa using hk1
  generalize wk h.bs a = ra at *
  generalize wk h.bs b = rb at *
  have hne' : ((ra : Int) == (rb : Int)) = false := by
    simp only [beq_eq_false_iff_ne, ne_eq]
    omega
  generalize (nd h.T ra).ags = la at *
  generalize (nd h.T rb).ags = lb at *
  obtain ⟨R, hR⟩ : ∃ R, R = unifArgs g la lb h.one := ⟨_, rfl⟩
  rw [← hR]
  have HR := hide hR
  clear hR
  go_enter Tryz.func136, Tryz.ntmps136
  go_wp2_with (first | (go_at_call 88; refine hsp.mono ?_; rintro e w2 ⟨rfl, nn, rfl⟩; have h2 := h1.below (below_drewN (Below.refl _ _) nn); have hf2 := hf1.trans (HFr.of_below (below_drewN (Below.refl _ _) nn)); obtain ⟨g0, cap0, c0, a0, l0, hka, hkb⟩ := HC.out _ h2) | (go_at_call 98; first | (refine (HWA.out _ h2).mono ?_; rintro e w3 ⟨rfl, rfl⟩; clear HWA) | (refine (HWB.out _ h2).mono ?_; rintro e w3 ⟨rfl, rfl⟩)) | (go_at_call 178; refine (HSM.out _ h2).mono ?_; rintro e w4 ⟨rfl, n4, rfl⟩; have h4' := h1.below (below_drewN (Below.refl _ _) (nn + n4)); have hf4 := hf1.trans (HFr.of_below (below_drewN (Below.refl _ _) (nn + n4)))))
  go_loopg [10, 11] (la.length + 1) (fun g' _ i wr => ∃ (j : Nat) (V3 : _root_.Fin 6 → Value) (h3 : Hp), i = .int .i64 j ∧ j ≤ la.length ∧ la.length - j < g' ∧ HpIn wr hb V3 avs most h3 ∧ HFr hb V V3 w wr ∧ V3 3 = V 3 ∧ h3.T = h.T ∧ h3.err = h.err ∧ h.cost + 1 ≤ h3.cost ∧ h3.cost ≤ max (h.cost + 1) M + j ∧ unifArgs g (la.drop j) (lb.drop j) h3 = R)
  case atStart => exact ⟨0, V, h.one, rfl, Nat.zero_le _, by omega, h4', hf4, rfl, rfl, rfl, Int.le_refl _, by show h.cost + 1 ≤ _; omega, HR.out.symm⟩
  case round =>
    clear c0 c6 f6 hsp hka hkb
    obtain ⟨j, V3, h3, rfl, hj, hgj, H3, hf3, eV, eT, eE, hlo, hhi, hany⟩ := hrel
    have HF3 := hide hf3
    clear hf3
    obtain ⟨g3, p3, aa, ca, ab, cb, c3, a3, l3, ka3, oa3, kb3, ob3⟩ := HA.out _ _ _ H3 eT
    have hhz3 := H3.tab.H.lt_size
    by_cases hjl : j < la.length
    · have hjb : j < lb.length := by omega
      obtain ⟨g5, cap5, e5, a5, b5, l5, j5, k5⟩ := own_cell (j := j) (u := .int .i64 la[j]) oa3 (by simp [intsV, hjl])
      cases e5
      obtain ⟨g6, cap6, e6, a6, b6, l6, j6, k6⟩ := own_cell (j := j) (u := .int .i64 lb[j]) ob3 (by simp [intsV, hjb])
      cases e6
      rw [unifArgs_drop hjl hjb] at hany
      have hgb := HG.out la[j] lb[j] h3 eT (by omega)
      have hcall : ∀ w', Below wr.heap.size wr w' → Calls Tryz.prog 136 #[.pointer (some ⟨hb, 0, none⟩), .int .i64 la[j], .int .i64 lb[j], .bool look] w' fun e w'' => HpPost hb V3 avs most wr (g la[j] lb[j] h3) e w'' := fun w' hB =>
        (HI.out w' V3 h3 la[j] lb[j] (H3.below hB) eT eE hlo (by omega) (hina _ (List.getElem_mem hjl)) (hinb _ (List.getElem_mem hjb))).mono (fun e w'' q => by
          obtain ⟨q1, V5, q2, q3, q4⟩ := q
          exact ⟨q1, V5, q2, (HFr.of_below hB).trans q3, q4⟩)
      obtain ⟨bb, h5, hbc⟩ : ∃ bb h5, g la[j] lb[j] h3 = (bb, h5) := ⟨_, _, rfl⟩
      rw [hbc] at hany hgb
      simp only [hbc] at hcall
      obtain ⟨kT, kE, kl, kh⟩ := hgb
      simp only at kT kE kl kh
      have HS5 : Hid (∀ w5 V5, HpIn w5 hb V5 avs most h5 → V5 3 = V3 3 → w5.cell? ⟨hb, 3, none⟩ = some (.slice (some ⟨g3, 0, none⟩) h.T.length p3) ∧ w5.cell? ⟨g3, ra, none⟩ = some (.slice (some ⟨g5, 0, none⟩) la.length ca) ∧ w5.cell? ⟨g3, rb, none⟩ = some (.slice (some ⟨g6, 0, none⟩) lb.length cb) ∧ w5.cell? ⟨g5, j, none⟩ = some (.int .i64 la[j]) ∧ w5.cell? ⟨g6, j, none⟩ = some (.int .i64 lb[j])) := fun w5 V5 H5 v5 => HSS.out wr w5 V3 V5 h3 h5 H3 H5 eT kT v5 _ _ _ _ _ _ j hjl hjb c3 ka3 kb3
      have HANY := hide hany
      have HCALL := hide hcall
      clear hany hbc oa3 ob3 hcall
      generalize la[j] = xa at *
      generalize lb[j] = xb at *
      cases bb with
      | true =>
        go_wp2_with fail
        go_region_held (fun w' => w'.cell? ⟨hb, 3, none⟩ = some (.slice (some ⟨g3, 0, none⟩) h.T.length p3) ∧ w'.cell? ⟨g3, ra, none⟩ = some (.slice (some ⟨g5, 0, none⟩) la.length ca) ∧ w'.cell? ⟨g3, rb, none⟩ = some (.slice (some ⟨g6, 0, none⟩) lb.length cb) ∧ w'.cell? ⟨g5, j, none⟩ = some (.int .i64 xa) ∧ w'.cell? ⟨g6, j, none⟩ = some (.int .i64 xb)) (first | exact ⟨c3, ka3, kb3, k5, k6⟩ | exact hS5 | go_keep) (first | (go_at_call 136; refine (HCALL.out _ (by first | exact Below.refl _ _ | exact (Below.refl _ _).drew | exact below_drewN (Below.refl _ _) _)).mono ?_; rintro e w4 ⟨rfl, V5, H5, f5, v5⟩; have hS5 := HS5.out _ _ H5 v5))
        all_goals
          go_wp2_with fail
          go_roundg (la.length - j)
          case measure => exact hgj
          case rel => exact ⟨j + 1, V5, h5, rfl, hjl, by omega, H5, HF3.out.trans f5, v5.trans eV, kT, by rw [kE, eE], by omega, by omega, by simpa using HANY.out⟩
      | false =>
        go_wp2_with fail
        go_region_held (fun w' => w'.cell? ⟨hb, 3, none⟩ = some (.slice (some ⟨g3, 0, none⟩) h.T.length p3) ∧ w'.cell? ⟨g3, ra, none⟩ = some (.slice (some ⟨g5, 0, none⟩) la.length ca) ∧ w'.cell? ⟨g3, rb, none⟩ = some (.slice (some ⟨g6, 0, none⟩) lb.length cb) ∧ w'.cell? ⟨g5, j, none⟩ = some (.int .i64 xa) ∧ w'.cell? ⟨g6, j, none⟩ = some (.int .i64 xb)) (first | exact ⟨c3, ka3, kb3, k5, k6⟩ | exact hS5 | go_keep) (first | (go_at_call 136; refine (HCALL.out _ (by first | exact Below.refl _ _ | exact (Below.refl _ _).drew | exact below_drewN (Below.refl _ _) _)).mono ?_; rintro e w4 ⟨rfl, V5, H5, f5, v5⟩; have hS5 := HS5.out _ _ H5 v5))
        all_goals
          go_wp2_with fail
          go_ret
          have e := HANY.out
          simp only [Bool.false_eq_true, if_false] at e
          rw [← e]
          exact ⟨rfl, V5, H5, HF3.out.trans f5, v5.trans eV⟩
    · have hjq : j = la.length := by omega
      go_wp2_with fail
      go_ret
      rw [hjq, unifArgs_end] at hany
      rw [← hany]
      exact ⟨rfl, V3, H3, HF3.out, eV⟩
theorem unify_x {hb : Nat} {avs : List Value} {most : Int} (look : Bool) (hm : most ≤ 1000000000) : ∀ (f : Nat) {w : World} {V : _root_.Fin 6 → Value} {h : Hp} (_ : HpIn w hb V avs most h) (_ : Four h.T) (_ : 0 ≤ h.cost) (_ : h.cost ≤ 1000000000000) (_ : most ≤ h.cost + f) (_ : f ≤ 1000000000) (a b : Nat) (_ : a < h.T.length) (_ : b < h.T.length),
    Calls Tryz.prog 136 #[.pointer (some ⟨hb, 0, none⟩), .int .i64 a, .int .i64 b, .bool look] w fun e w' => HpPost hb V avs most w (uniS most look f a b h) e w'
  | 0, w, V, h, H, h4, hc0, hc, hf, hfm, a, b, ha, hb' => by
    simp only [uniS]
    exact uni_spent H hc0 hc a b look (by simp only [spentB, Bool.or_eq_true, decide_eq_true_eq]; left; omega)
  | f + 1, w, V, h, H, h4, hc0, hc, hf, hfm, a, b, ha, hb' => by
    simp only [uniS]
    by_cases hs : spentB (h.cost + 1) most h.err = true
    · rw [if_pos hs]
      exact uni_spent H hc0 hc a b look hs
    · rw [if_neg hs]
      have hs' : spentB (h.cost + 1) most h.err = false := by simpa using hs
      have hcm : h.cost + 1 ≤ most := by
        simp only [spentB, Bool.or_eq_true, decide_eq_true_eq, not_or] at hs
        omega
      by_cases hv : wk h.bs a = wk h.bs b
      · rw [if_pos hv]
        exact uni_eq H hc0 hc a b look ha hb' hs' hv
      · rw [if_neg hv]
        by_cases hk : (nd h.T (wk h.bs a)).k = 118
        · rw [if_pos hk]
          cases look with
          | true => exact uni_look_a H hc0 hc a b ha hb' hs' hv hk
          | false => exact uni_set_a H hc0 hc a b h4 hm hcm ha hb' hs' hv hk
        · rw [if_neg hk]
          by_cases hk1 : (nd h.T (wk h.bs b)).k = 118
          · rw [if_pos hk1]
            cases look with
            | true => exact uni_look_b H hc0 hc a b ha hb' hs' hv hk hk1
            | false => exact uni_set_b H hc0 hc a b h4 hm hcm ha hb' hs' hv hk hk1
          · rw [if_neg hk1]
            by_cases hsm : sameB (nd h.T (wk h.bs a)) (nd h.T (wk h.bs b)) = true
            · rw [if_pos hsm]
              refine uni_args H hc0 hc a b look h4 ha hb' hs' hv hk hk1 hsm (M := 5 * most + 1 + 4 * f) (fun x y h' hT h0 => uniS_keep h4 f x y h' hT h0) (fun w2 V2 h2 x y H2 eT eE hlo hhi hx hy => ?_)
              exact unify_x look hm f H2 (by rw [eT]; exact h4) (by omega) (by omega) (by omega) (by omega) x y (by rw [eT]; exact hx) (by rw [eT]; exact hy)
            · rw [if_neg hsm]
              exact uni_not H hc0 hc a b look ha hb' hs' hv hk hk1 (by simpa using hsm)
def I64 (r : Int) : Prop := -9223372036854775808 ≤ r ∧ r ≤ 9223372036854775807
def Nums (T : List Nd) : Prop := ∀ t, t < T.length → I64 (nd T t).n ∧ (nd T t).nm.size ≤ 2000
theorem HpIn.fault {w : World} {hb : Nat} {V : _root_.Fin 6 → Value} {avs : List Value} {most : Int} {h : Hp} (H : HpIn w hb V avs most h) (er : Int) :
    HpIn (w.setCell ⟨hb, 8, none⟩ (.int .i64 er)) hb V avs most { h with err := er } ∧ HFr hb V V w (w.setCell ⟨hb, 8, none⟩ (.int .i64 er)) := by
  obtain ⟨a, b⟩ := H.tab.H.setNum 8 (.int .i64 er) h.cost most er rfl
  exact ⟨⟨H.tab.step a (by simp [tosOf]) b, H.ok, H.vars, H.ags, H.small⟩, b⟩
def ValPost (hb : Nat) (V : _root_.Fin 6 → Value) (avs : List Value) (most : Int) (h : Hp) (M : Int) (w : World) (e : Ending) (w' : World) : Prop :=
  ∃ (r c er : Int), e = .returned (.int .i64 r) ∧ I64 r ∧ HpIn w' hb V avs most { h with cost := c, err := er } ∧ HFr hb V V w w' ∧ h.cost + 1 ≤ c ∧ c ≤ max (h.cost + 1) M ∧ (er = h.err ∨ (7 ≤ er ∧ er ≤ 9))
theorem val_spent {w : World} {hb : Nat} {V : _root_.Fin 6 → Value} {avs : List Value} {most : Int} {h : Hp} (H : HpIn w hb V avs most h) (hc0 : 0 ≤ h.cost) (hc : h.cost ≤ 1000000000000) (t : Nat) (M : Int) (hs : spentB (h.cost + 1) most h.err = true) :
    Calls Tryz.prog 221 #[.pointer (some ⟨hb, 0, none⟩), .int .i64 t] w fun e w' => ValPost hb V avs most h M w e w' := by
  have c6 : w.cell? ⟨hb, 6, none⟩ = some (.int .i64 h.cost) := H.tab.H.c 6
  have f6 := H.tab.H.fz 6
  have hhz := H.tab.H.lt_size
  obtain ⟨h1, hf1⟩ := H.count (h.cost + 1)
  have hsp := spent_x h1.tab.H
  rw [show (decide (most < h.cost + 1) || !(h.err == 0)) = true from hs] at hsp
  go_enter Tryz.func221, Tryz.ntmps221
  go_wp2_with (go_at_call 88; refine hsp.mono ?_; rintro e w2 ⟨rfl, nn, rfl⟩; have h2 := h1.below (below_drewN (Below.refl _ _) nn))
  go_ret
  exact ⟨0, h.cost + 1, h.err, rfl, by constructor <;> decide, h2, hf1.trans (HFr.of_below (below_drewN (Below.refl _ _) nn)), Int.le_refl _, by omega, .inl rfl⟩
theorem val_leaf {w : World} {hb : Nat} {V : _root_.Fin 6 → Value} {avs : List Value} {most : Int} {h : Hp} (H : HpIn w hb V avs most h) (hc0 : 0 ≤ h.cost) (hc : h.cost ≤ 1000000000000) (hN : Nums h.T) (t : Nat) (ht : t < h.T.length) (M : Int) (hs : spentB (h.cost + 1) most h.err = false)
    (hk : (nd h.T (wk h.bs t)).k = 110 ∨ (nd h.T (wk h.bs t)).k = 118) :
    Calls Tryz.prog 221 #[.pointer (some ⟨hb, 0, none⟩), .int .i64 t] w fun e w' => ValPost hb V avs most h M w e w' := by
  have c6 : w.cell? ⟨hb, 6, none⟩ = some (.int .i64 h.cost) := H.tab.H.c 6
  have f6 := H.tab.H.fz 6
  have hhz := H.tab.H.lt_size
  have hsm := H.small
  obtain ⟨h1, hf1⟩ := H.count (h.cost + 1)
  have hsp := spent_x h1.tab.H
  rw [show (decide (most < h.cost + 1) || !(h.err == 0)) = false from hs] at hsp
  have hrl := wk_lt H.ok t ht
  have HW : Hid (∀ w3, HpIn w3 hb V avs most { h with cost := h.cost + 1 } → Calls Tryz.prog 98 #[.pointer (some ⟨hb, 0, none⟩), .int .i64 t] w3 fun e w' => e = .returned (.int .i64 (wk h.bs t)) ∧ w' = w3) := fun w3 h3 => walk_x h3 t ht
  have HC : Hid (∀ w3, HpIn w3 hb V avs most { h with cost := h.cost + 1 } → ∃ g0 p0 g2 p2, w3.cell? ⟨hb, 0, none⟩ = some (.slice (some ⟨g0, 0, none⟩) h.T.length p0) ∧ h.T.length ≤ p0 ∧ w3.cell? ⟨hb, 2, none⟩ = some (.slice (some ⟨g2, 0, none⟩) h.T.length p2) ∧ h.T.length ≤ p2 ∧
      w3.cell? ⟨g0, wk h.bs t, none⟩ = some (.int .u8 (nd h.T (wk h.bs t)).k) ∧ w3.cell? ⟨g2, wk h.bs t, none⟩ = some (.int .i64 (nd h.T (wk h.bs t)).n)) := fun w3 h3 => by
    obtain ⟨g0, p0, g1, p1, g2, p2, g3, p3, c0, l0, c1, l1, c2, l2, c3, l3, hall⟩ := hp_rows h3 _ hrl
    obtain ⟨k0, k1, k2, _⟩ := hall _ hrl
    exact ⟨g0, p0, g2, p2, c0, l0, c2, l2, k0, k2⟩
  have hn := (hN _ hrl).1
  generalize nd h.T (wk h.bs t) = A at *
  generalize wk h.bs t = r at *
  obtain ⟨k, m, n, s⟩ := A
  simp only at hk hn HC
  have HN := hide hn
  have HE := hide (fun (w3 : World) (h3 : HpIn w3 hb V avs most { h with cost := h.cost + 1 }) => h3.fault 7)
  have HZ : Hid (∀ w3, HpIn w3 hb V avs most { h with cost := h.cost + 1 } → hb < w3.heap.size ∧ w3.frozen? ⟨hb, 8, none⟩ = false ∧ w3.cell? ⟨hb, 8, none⟩ = some (.int .i64 h.err)) := fun w3 h3 => ⟨h3.tab.H.lt_size, h3.tab.H.fz 8, h3.tab.H.c 8⟩
  clear hn
  rcases hk with rfl | rfl
  · clear HE HZ
    go_enter Tryz.func221, Tryz.ntmps221
    go_wp2_with (first | (go_at_call 88; refine hsp.mono ?_; rintro e w2 ⟨rfl, nn, rfl⟩; have h2 := h1.below (below_drewN (Below.refl _ _) nn); obtain ⟨g0, p0, g2, p2, c0, l0, c2, l2, k0, k2⟩ := HC.out _ h2) | (go_at_call 98; refine (HW.out _ h2).mono ?_; rintro e w3 ⟨rfl, rfl⟩))
    go_ret
    exact ⟨n, h.cost + 1, h.err, rfl, HN.out, h2, hf1.trans (HFr.of_below (below_drewN (Below.refl _ _) nn)), Int.le_refl _, by omega, .inl rfl⟩
  · go_enter Tryz.func221, Tryz.ntmps221
    go_wp2_with (first | (go_at_call 88; refine hsp.mono ?_; rintro e w2 ⟨rfl, nn, rfl⟩; have h2 := h1.below (below_drewN (Below.refl _ _) nn); obtain ⟨g0, p0, g2, p2, c0, l0, c2, l2, k0, k2⟩ := HC.out _ h2; obtain ⟨z1, z2, z3⟩ := HZ.out _ h2) | (go_at_call 98; refine (HW.out _ h2).mono ?_; rintro e w3 ⟨rfl, rfl⟩))
    go_ret
    exact ⟨0, h.cost + 1, 7, rfl, by constructor <;> decide, (HE.out _ h2).1, (hf1.trans (HFr.of_below (below_drewN (Below.refl _ _) nn))).trans (HE.out _ h2).2, Int.le_refl _, by omega, .inr (by decide)⟩
def isOpB (n : ByteArray) : Bool := n.toList == [43] || (n.toList == [45] || (n.toList == [42] || (n.toList == [47, 47] || n.toList == [109, 111, 100])))
theorem two_of {α : Type} : ∀ {l : List α}, l.length = 2 → ∃ a b, l = [a, b]
  | [a, b], _ => ⟨a, b, rfl⟩
theorem i64_wrap (n : Int) : I64 (wrap64 n) := by
  unfold wrap64 I64
  omega
theorem i64_tmod {a b : Int} (hb : I64 b) (h0 : b ≠ 0) : I64 (a.tmod b) := by
  have h1 : (a.tmod b).natAbs = a.natAbs % b.natAbs := Int.natAbs_tmod a b
  have h2 : a.natAbs % b.natAbs < b.natAbs := Nat.mod_lt _ (by omega)
  unfold I64 at *
  omega
def ValCall (hb : Nat) (V : _root_.Fin 6 → Value) (avs : List Value) (most : Int) (h : Hp) (M : Int) : Prop :=
  ∀ (w2 : World) (c er : Int) (a : Nat), HpIn w2 hb V avs most { h with cost := c, err := er } → h.cost + 1 ≤ c → c ≤ max (h.cost + 1) M + 1 → a < h.T.length →
    Calls Tryz.prog 221 #[.pointer (some ⟨hb, 0, none⟩), .int .i64 a] w2 fun e w' => ValPost hb V avs most { h with cost := c, err := er } M w2 e w'
theorem val_node {w : World} {hb : Nat} {V : _root_.Fin 6 → Value} {avs : List Value} {most : Int} {h : Hp} (H : HpIn w hb V avs most h) (hc0 : 0 ≤ h.cost) (hc : h.cost ≤ 1000000000000) (t : Nat) (ht : t < h.T.length) (M : Int) (hs : spentB (h.cost + 1) most h.err = false)
    (hk1 : (nd h.T (wk h.bs t)).k ≠ 110) (hk2 : (nd h.T (wk h.bs t)).k ≠ 118) (hI : ValCall hb V avs most h M) :
    Calls Tryz.prog 221 #[.pointer (some ⟨hb, 0, none⟩), .int .i64 t] w fun e w' => ValPost hb V avs most h (max (h.cost + 1) M + 2) w e w' := by
  have c6 : w.cell? ⟨hb, 6, none⟩ = some (.int .i64 h.cost) := H.tab.H.c 6
  have f6 := H.tab.H.fz 6
  have hhz := H.tab.H.lt_size
  have hsm := H.small
  obtain ⟨h1, hf1⟩ := H.count (h.cost + 1)
  have hsp := spent_x h1.tab.H
  rw [show (decide (most < h.cost + 1) || !(h.err == 0)) = false from hs] at hsp
  have hrl := wk_lt H.ok t ht
  have HW : Hid (∀ w3, HpIn w3 hb V avs most { h with cost := h.cost + 1 } → Calls Tryz.prog 98 #[.pointer (some ⟨hb, 0, none⟩), .int .i64 t] w3 fun e w' => e = .returned (.int .i64 (wk h.bs t)) ∧ w' = w3) := fun w3 h3 => walk_x h3 t ht
  have HC : Hid (∀ w3 c er, HpIn w3 hb V avs most { h with cost := c, err := er } → ∃ g0 p0 g1 p1 g3 p3 ao cap, w3.cell? ⟨hb, 0, none⟩ = some (.slice (some ⟨g0, 0, none⟩) h.T.length p0) ∧ h.T.length ≤ p0 ∧ w3.cell? ⟨hb, 1, none⟩ = some (.slice (some ⟨g1, 0, none⟩) h.T.length p1) ∧ h.T.length ≤ p1 ∧
      w3.cell? ⟨hb, 3, none⟩ = some (.slice (some ⟨g3, 0, none⟩) h.T.length p3) ∧ h.T.length ≤ p3 ∧
      w3.cell? ⟨g0, wk h.bs t, none⟩ = some (.int .u8 (nd h.T (wk h.bs t)).k) ∧ w3.cell? ⟨g1, wk h.bs t, none⟩ = some (.string (nd h.T (wk h.bs t)).nm) ∧ w3.cell? ⟨g3, wk h.bs t, none⟩ = some (.slice ao (nd h.T (wk h.bs t)).ags.length cap) ∧ w3.ownsRow 0 3 1 (.slice ao (nd h.T (wk h.bs t)).ags.length cap) (nd h.T (wk h.bs t)).ags.length (intsV (nd h.T (wk h.bs t)).ags)) := fun w3 c er h3 => by
    obtain ⟨g0, p0, g1, p1, g2, p2, g3, p3, c0, l0, c1, l1, c2, l2, c3, l3, hall⟩ := hp_rows h3 _ hrl
    obtain ⟨k0, k1, k2, ao, cap, k3, o3⟩ := hall _ hrl
    exact ⟨g0, p0, g1, p1, g3, p3, ao, cap, c0, l0, c1, l1, c3, l3, k0, k1, k3, o3⟩
  have hag := H.ags _ hrl
  generalize nd h.T (wk h.bs t) = A at *
  generalize wk h.bs t = r at *
  obtain ⟨k, m, n, s⟩ := A
  simp only at hk1 hk2 HC hag
  have hk1' : (k == 110) = false := by simpa using hk1
  have hk2' : (k == 118) = false := by simpa using hk2
  have HAG := hide hag
  have HI := hide hI
  have HE := hide (fun (w3 : World) (c er e : Int) (h3 : HpIn w3 hb V avs most { h with cost := c, err := er }) => h3.fault e)
  have HZ : Hid (∀ w3 c er, HpIn w3 hb V avs most { h with cost := c, err := er } → hb < w3.heap.size ∧ w3.frozen? ⟨hb, 8, none⟩ = false ∧ w3.cell? ⟨hb, 8, none⟩ = some (.int .i64 er)) := fun w3 c er h3 => ⟨h3.tab.H.lt_size, h3.tab.H.fz 8, h3.tab.H.c 8⟩
  have HSP := hide (fun (w3 : World) (c er : Int) (h3 : HpIn w3 hb V avs most { h with cost := c, err := er }) => spent_x h3.tab.H)
  clear hag hI
  go_enter Tryz.func221, Tryz.ntmps221
  go_upto_region 13 with (first | (go_at_call 88; refine hsp.mono ?_; rintro e w2 ⟨rfl, nn, rfl⟩; have h2 := h1.below (below_drewN (Below.refl _ _) nn); obtain ⟨g0, p0, g1, p1, g3, p3, ao, cap, c0, l0, c1, l1, c3, l3, k0, k1, k3, o3⟩ := HC.out _ _ _ h2) | (go_at_call 98; refine (HW.out _ h2).mono ?_; rintro e w3 ⟨rfl, rfl⟩))
  have hf2 := hf1.trans (HFr.of_below (V := V) (hb := hb) (below_drewN (Below.refl (w.setCell ⟨hb, 6, none⟩ (.int .i64 (h.cost + 1))).heap.size (w.setCell ⟨hb, 6, none⟩ (.int .i64 (h.cost + 1)))) nn))
  obtain ⟨W, hW⟩ : ∃ W, W = (w.setCell ⟨hb, 6, none⟩ (.int .i64 (h.cost + 1))).drewN nn := ⟨_, rfl⟩
  rw [← hW] at h2 c0 c1 c3 k0 k1 k3 o3 hf2 ⊢
  have HH2 := hide h2
  have HF2 := hide hf2
  clear hW hsp h1 hf1 c6 f6 hf2
  go_cut [7] (fun v wx => v = .bool (isOpB m) ∧ W = wx)
  case first =>
    clear HC HW HI HE HZ HSP HAG
    cases h43 : (m.toList == [43]) with
    | true =>
      go_wp2_with fail
      go_meet
      case rel => exact ⟨by simp [isOpB, h43], rfl⟩
    | false =>
      cases h45 : (m.toList == [45]) with
      | true =>
        go_wp2_with fail
        go_meet
        case rel => exact ⟨by simp [isOpB, h43, h45], rfl⟩
      | false =>
        cases h42 : (m.toList == [42]) with
        | true =>
          go_wp2_with fail
          go_meet
          case rel => exact ⟨by simp [isOpB, h43, h45, h42], rfl⟩
        | false =>
          cases h47 : (m.toList == [47, 47]) with
          | true =>
            go_wp2_with fail
            go_meet
            case rel => exact ⟨by simp [isOpB, h43, h45, h42, h47], rfl⟩
          | false =>
            go_wp2_with fail
            go_meet
            case rel => exact ⟨by simp [isOpB, h43, h45, h42, h47], rfl⟩
  case rest =>
    obtain ⟨hv7, rfl⟩ := hcut
    obtain ⟨op, hop⟩ : ∃ op, op = isOpB m := ⟨_, rfl⟩
    rw [← hop] at hv7
    subst hv7
    have HOP := hide hop
    clear hop
    have hsl : (s.length : Int) ≤ 1000000000 ∨ True := .inr trivial
    by_cases hq : k = 99 ∧ s.length = 2 ∧ op = true
    · obtain ⟨rfl, h2l, rfl⟩ := hq
      obtain ⟨a, b, hs2⟩ := two_of h2l
      subst hs2
      have hal := HAG.out a (by simp)
      have hbl := HAG.out b (by simp)
      obtain ⟨g5, cap5, e5, a5, b5, l5, j5, k5⟩ := own_cell (j := 0) (u := .int .i64 a) o3 (by simp [intsV])
      cases e5
      have HB : Hid (∀ w3 c er, HpIn w3 hb V avs most { h with cost := c, err := er } → ∃ g3 p3 ga cap, w3.cell? ⟨hb, 3, none⟩ = some (.slice (some ⟨g3, 0, none⟩) h.T.length p3) ∧ h.T.length ≤ p3 ∧ w3.cell? ⟨g3, r, none⟩ = some (.slice (some ⟨ga, 0, none⟩) 2 cap) ∧ 2 ≤ cap ∧ w3.cell? ⟨ga, 1, none⟩ = some (.int .i64 b)) := fun w3 c er h3 => by
        obtain ⟨g0, p0, g1, p1, g3, p3, ao, cap, c0, l0, c1, l1, c3, l3, k0, k1, k3, o3⟩ := HC.out _ _ _ h3
        obtain ⟨g5, cap5, e5, a5, b5, l5, j5, k5⟩ := own_cell (j := 1) (u := .int .i64 b) o3 (by simp [intsV])
        cases e5
        exact ⟨g3, p3, g5, cap, c3, l3, k3, by simpa using a5, k5⟩
      have hcall1 := HI.out W _ _ a HH2.out (Int.le_refl _) (by omega) hal
      clear HC HW o3 h2
      simp only [List.length_cons, List.length_nil] at k3 a5
      go_upto_region 22 with (first | (go_at_call 221; first | (refine hcall1.mono ?_; rintro e w4 ⟨r1, cc1, er1, rfl, hi1, H4, F4, lo1, hi1', e1⟩; clear hcall1; simp only at lo1 hi1' e1 H4; obtain ⟨g8, p8, ga8, cap8, c8, l8, k8, a8, b8⟩ := HB.out _ _ _ H4) | (refine (HI.out w4 _ _ b H4 (by omega) (by omega) hbl).mono ?_; rintro e w5 ⟨r2, cc2, er2, rfl, hi2, H5, F5, lo2, hi2', e2⟩; simp only at lo2 hi2' e2 H5)) | (go_at_call 88; refine (HSP.out w5 _ _ H5).mono ?_; rintro e w6 ⟨rfl, n6, rfl⟩))
      all_goals have HR : Hid (∀ w3 c er x, HpIn w3 hb V avs most { h with cost := c, err := er } → HFr hb V V w w3 → h.cost + 1 ≤ c → c ≤ max (h.cost + 1) M + 2 → (er = h.err ∨ (7 ≤ er ∧ er ≤ 9)) → I64 x → ValPost hb V avs most h (max (h.cost + 1) M + 2) w (.returned (.int .i64 x)) w3) := fun w3 c er x q1 q2 q3 q4 q5 q6 => ⟨x, c, er, rfl, q6, q1, q2, q3, by omega, q5⟩
      all_goals have H6 := H5.below (below_drewN (Below.refl _ _) n6)
      all_goals have F6 : HFr hb V V w (w5.drewN n6) := HF2.out.trans (F4.trans (F5.trans (HFr.of_below (below_drewN (Below.refl _ _) n6))))
      all_goals have hlo : h.cost + 1 ≤ cc2 := by omega
      all_goals have hup : cc2 ≤ max (h.cost + 1) M + 2 := by omega
      all_goals have her : er2 = h.err ∨ (7 ≤ er2 ∧ er2 ≤ 9) := by omega
      all_goals have HX := hide (fun x hx => HR.out _ _ _ x H6 F6 hlo hup her hx)
      all_goals have HXE := hide (fun x hx => HR.out _ _ _ x (HE.out _ _ _ 9 H6).1 (F6.trans (HE.out _ _ _ 9 H6).2) hlo hup (.inr (by decide)) hx)
      all_goals obtain ⟨z1, z2, z3⟩ := HZ.out _ _ _ H6
      all_goals clear HR H6 F6 hlo hup her HE HZ HSP HI HB HAG F4 F5 H4 H5 e1 e2 lo1 lo2 hi1' hi2' HH2 HF2 c8 l8 k8 a8 b8 k5 l5 j5 a5 b5 c0 c1 c3 k0 k1 k3
      · go_ret
        exact HX.out 0 (by constructor <;> decide)
      · clear HOP
        cases h43 : (m.toList == [43]) with
        | true =>
          go_wp2_with fail
          go_ret
          exact HX.out _ (i64_wrap _)
        | false =>
          cases h45 : (m.toList == [45]) with
          | true =>
            go_wp2_with fail
            go_ret
            exact HX.out _ (i64_wrap _)
          | false =>
            cases h42 : (m.toList == [42]) with
            | true =>
              go_wp2_with fail
              go_ret
              exact HX.out _ (i64_wrap _)
            | false =>
              by_cases hz : r2 = 0
              · subst hz
                go_wp2_with fail
                go_ret
                exact HXE.out 0 (by constructor <;> decide)
              · have hz' : (r2 == 0) = false := by simpa using hz
                by_cases hm1 : r2 = -1
                · subst hm1
                  cases h47 : (m.toList == [47, 47]) with
                  | true =>
                    go_wp2_with fail
                    go_ret
                    exact HX.out _ (i64_wrap _)
                  | false =>
                    go_wp2_with fail
                    go_ret
                    exact HX.out 0 (by constructor <;> decide)
                · have hm1' : (r2 == -1) = false := by simpa using hm1
                  cases h47 : (m.toList == [47, 47]) with
                  | true =>
                    go_wp2_with fail
                    go_ret
                    exact HX.out _ (i64_wrap _)
                  | false =>
                    have HT := hide (i64_tmod (a := r1) hi2 hz)
                    go_wp2_with fail
                    all_goals go_ret
                    all_goals first | exact HX.out _ HT.out | exact HX.out _ (i64_wrap _)
    · have HF : Hid (∀ w3, HpIn w3 hb V avs most { h with cost := h.cost + 1 } → HFr hb V V w w3 → ValPost hb V avs most h (max (h.cost + 1) M + 2) w (.returned (.int .i64 0)) (w3.setCell ⟨hb, 8, none⟩ (.int .i64 8))) := fun w3 h3 f3 =>
        ⟨0, h.cost + 1, 8, rfl, by constructor <;> decide, (HE.out _ _ _ 8 h3).1, f3.trans (HE.out _ _ _ 8 h3).2, Int.le_refl _, by omega, .inr (by decide)⟩
      obtain ⟨z1, z2, z3⟩ := HZ.out _ _ _ h2
      clear HC HW HI HE HZ HSP HAG HOP o3 h2
      by_cases hk99 : k = 99
      · subst hk99
        by_cases hl2 : s.length = 2
        · have hopf : op = false := by cases op with | false => rfl | true => exact absurd ⟨rfl, hl2, rfl⟩ hq
          subst hopf
          rw [hl2] at k3
          clear hq
          go_wp2_with fail
          go_ret
          exact HF.out _ HH2.out HF2.out
        · have hl2' : ((s.length : Int) == 2) = false := by simp only [beq_eq_false_iff_ne, ne_eq]; omega
          clear hq
          go_wp2_with fail
          go_ret
          exact HF.out _ HH2.out HF2.out
      · have hk99' : (k == 99) = false := by simpa using hk99
        clear hq
        go_wp2_with fail
        go_ret
        exact HF.out _ HH2.out HF2.out
theorem value_x {hb : Nat} {V : _root_.Fin 6 → Value} {avs : List Value} {most : Int} (hm : most ≤ 1000000000) : ∀ (f : Nat) {w : World} {h : Hp} (_ : HpIn w hb V avs most h) (_ : Nums h.T) (_ : 0 ≤ h.cost) (_ : h.cost ≤ 100000000000) (_ : most ≤ h.cost + f) (_ : f ≤ 1000000000) (t : Nat) (_ : t < h.T.length),
    Calls Tryz.prog 221 #[.pointer (some ⟨hb, 0, none⟩), .int .i64 t] w fun e w' => ValPost hb V avs most h (most + 1 + 2 * f) w e w'
  | 0, w, h, H, hN, hc0, hc, hf, hfm, t, ht => val_spent H hc0 (by omega) t _ (by simp only [spentB, Bool.or_eq_true, decide_eq_true_eq]; left; omega)
  | f + 1, w, h, H, hN, hc0, hc, hf, hfm, t, ht => by
    by_cases hs : spentB (h.cost + 1) most h.err = true
    · exact val_spent H hc0 (by omega) t _ hs
    · have hs' : spentB (h.cost + 1) most h.err = false := by simpa using hs
      have hcm : h.cost + 1 ≤ most := by
        simp only [spentB, Bool.or_eq_true, decide_eq_true_eq, not_or] at hs
        omega
      by_cases hk : (nd h.T (wk h.bs t)).k = 110 ∨ (nd h.T (wk h.bs t)).k = 118
      · exact val_leaf H hc0 (by omega) hN t ht _ hs' hk
      · refine (val_node H hc0 (by omega) t ht (most + 1 + 2 * f) hs' (fun e => hk (.inl e)) (fun e => hk (.inr e)) (fun w2 c er a h2 hlo hhi ha => value_x hm f h2 hN (by show 0 ≤ c; omega) (by show c ≤ _; omega) (by show most ≤ c + _; omega) (by omega) a ha)).mono fun e w' hp => ?_
        obtain ⟨r, c, er, q1, q2, q3, q4, q5, q6, q7⟩ := hp
        exact ⟨r, c, er, q1, q2, q3, q4, q5, by omega, q7⟩
end Go.Proofs.YtodpkdajbnceoaaGreatDoor

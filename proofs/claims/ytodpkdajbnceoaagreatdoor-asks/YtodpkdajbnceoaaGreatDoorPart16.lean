import Derived.Test.YtodpkdajbnceoaaGreatDoorPart15
import Derived.Test.YtodpkdajbnceoaaGreatDoorPart08
set_option linter.all false
set_option maxHeartbeats 4000000
set_option maxRecDepth 100000
namespace Go.Proofs.YtodpkdajbnceoaaGreatDoor
open Go.RowKit
theorem toOf_out {n : Nat} {bs : List (Nat × Nat)} (h : BsOk n bs) {x : Nat} (hx : n ≤ x) : toOf bs x = none := by
  cases hq : toOf bs x with
  | none => rfl
  | some y => have := (toOf_lt h hq).1; omega
theorem tosOf_snoc {n : Nat} {bs : List (Nat × Nat)} (h : BsOk n bs) : tosOf (n + 1) bs = tosOf n bs ++ [-1] := by
  simp only [tosOf, List.range_succ, List.map_append, List.map_cons, List.map_nil]
  rw [toOf_out h (Nat.le_refl n)]
theorem nd_snoc {T : List Nd} {x : Nd} {t : Nat} (h : t < T.length) : nd (T ++ [x]) t = nd T t := by
  simp [nd, List.getD, List.getElem?_append_left h]
theorem nd_last (T : List Nd) (x : Nd) : nd (T ++ [x]) T.length = x := by simp [nd, List.getD]
theorem nd_pre {T T' : List Nd} (h : T <+: T') {t : Nat} (ht : t < T.length) : nd T' t = nd T t := by
  obtain ⟨r, rfl⟩ := h
  simp [nd, List.getD, List.getElem?_append_left ht]
theorem HpIn.add {w w' : World} {hb : Nat} {V V' : _root_.Fin 6 → Value} {avs : List Value} {most : Int} {h : Hp} {k : Int} {nm : ByteArray} {n : Int} {av : Value} {ags : List Nat}
    (H : HpIn w hb V avs most h) (ho : w.ownsRow 0 3 1 av ags.length (intsV ags)) (hn : ∀ b, av.ownBlock = some b → ¬ HM hb V b) (hag : ∀ a ∈ ags, a < h.T.length) (hs : h.T.length + 1 ≤ 1000000000)
    (hH : HIn w' hb V' (addC (tabC h.T avs (tosOf h.T.length h.bs) (trOf h.bs)) k nm n av) h.cost most h.err) (hf : HFr hb V V' w w') : HpIn w' hb V' (avs ++ [av]) most { h with T := h.T ++ [⟨k, nm, n, ags⟩] } := by
  have hT := H.tab.add ho hn hH hf
  refine ⟨?_, H.ok.mono (by simp), fun x y hx => ?_, fun t ht a ha => ?_, by simpa using hs⟩
  · have e : tosOf (h.T ++ [(⟨k, nm, n, ags⟩ : Nd)]).length h.bs = tosOf h.T.length h.bs ++ [-1] := by rw [List.length_append]; exact tosOf_snoc H.ok
    show Tab w' hb V' _ _ (tosOf (h.T ++ [(⟨k, nm, n, ags⟩ : Nd)]).length h.bs) _ _ _ _
    rw [e]; exact hT
  · show (nd (h.T ++ [(⟨k, nm, n, ags⟩ : Nd)]) x).k = 118
    rw [nd_snoc (toOf_lt H.ok hx).1]
    exact H.vars x y hx
  · show a < (h.T ++ [(⟨k, nm, n, ags⟩ : Nd)]).length
    have ht' : t < h.T.length + 1 := by simpa using ht
    have ha' : a ∈ (nd (h.T ++ [(⟨k, nm, n, ags⟩ : Nd)]) t).ags := ha
    rw [List.length_append]
    by_cases e : t < h.T.length
    · rw [nd_snoc e] at ha'
      have := H.ags t e a ha'
      omega
    · have e2 : t = h.T.length := by omega
      rw [e2, nd_last] at ha'
      have := hag a ha'
      omega
theorem Four.add {T : List Nd} {x : Nd} (h : Four T) (hx : x.ags.length ≤ 4) : Four (T ++ [x]) := fun t ht => by
  by_cases e : t < T.length
  · rw [nd_snoc e]; exact h t e
  · have e2 : t = T.length := by simp at ht; omega
    rw [e2, nd_last]; exact hx
theorem Nums.add {T : List Nd} {x : Nd} (h : Nums T) (hx : I64 x.n ∧ x.nm.size ≤ 2000) : Nums (T ++ [x]) := fun t ht => by
  by_cases e : t < T.length
  · rw [nd_snoc e]; exact h t e
  · have e2 : t = T.length := by simp at ht; omega
    rw [e2, nd_last]; exact hx
theorem setS_bs (most : Int) (h : Hp) (v t : Nat) : h.bs.length ≤ (setS most h v t).2.bs.length := by
  simp only [setS]
  split
  · exact Nat.le_refl _
  · simp [Hp.bind]
theorem unifArgs_bs {g : Nat → Nat → Hp → Bool × Hp} (hg : ∀ a b h, h.bs.length ≤ (g a b h).2.bs.length) : ∀ (la lb : List Nat) (h : Hp), h.bs.length ≤ (unifArgs g la lb h).2.bs.length
  | [], lb, h => by simp [unifArgs]
  | a :: la, [], h => by simp [unifArgs]
  | a :: la, b :: lb, h => by
    have h1 := hg a b h
    have h2 := unifArgs_bs hg la lb (g a b h).2
    simp only [unifArgs]
    split
    · omega
    · exact h1
theorem uniS_bs {most : Int} {look : Bool} : ∀ (f a b : Nat) (h : Hp), h.bs.length ≤ (uniS most look f a b h).2.bs.length
  | 0, a, b, h => Nat.le_refl _
  | f + 1, a, b, h => by
    have st : ∀ v t, h.bs.length ≤ (setS most h.one v t).2.bs.length := fun v t => setS_bs most h.one v t
    simp only [uniS]
    split
    · exact Nat.le_refl _
    · split
      · exact Nat.le_refl _
      · split
        · split
          · exact Nat.le_refl _
          · exact st _ _
        · split
          · split
            · exact Nat.le_refl _
            · exact st _ _
          · split
            · exact unifArgs_bs (fun a b h => uniS_bs f a b h) _ _ h.one
            · exact Nat.le_refl _
structure Sound (hb : Nat) (most : Int) (w : World) (V : _root_.Fin 6 → Value) (avs : List Value) (h : Hp) : Prop where
  H : HpIn w hb V avs most h
  f4 : Four h.T
  nums : Nums h.T
  c0 : 0 ≤ h.cost
structure Later (h h' : Hp) (k : Nat) (M : Int) : Prop where
  T : h.T <+: h'.T
  len : h'.T.length ≤ h.T.length + k
  lo : h.cost ≤ h'.cost
  hi : h'.cost ≤ M
  bs : h.bs.length ≤ h'.bs.length
def StepPost (hb : Nat) (V : _root_.Fin 6 → Value) (most : Int) (h : Hp) (k : Nat) (M : Int) (w : World) (e : Ending) (w' : World) : Prop :=
  ∃ (b : Bool) (h' : Hp) (V' : _root_.Fin 6 → Value) (avs' : List Value), e = .returned (.bool b) ∧ Sound hb most w' V' avs' h' ∧ HFr hb V V' w w' ∧ Later h h' k M
theorem fuel_le {most c : Int} (h : 0 ≤ c) (hm : 0 ≤ most) : (fuelOf most c : Int) ≤ most := by unfold fuelOf; omega
def UniPost (hb : Nat) (V : _root_.Fin 6 → Value) (avs : List Value) (most : Int) (h : Hp) (w : World) (r : Bool) (h' : Hp) (e : Ending) (w' : World) : Prop :=
  e = .returned (.bool r) ∧ ∃ V', Sound hb most w' V' avs h' ∧ HFr hb V V' w w' ∧ V' 3 = V 3
theorem unify_s {hb : Nat} {most : Int} (h : Hp) (look : Bool) (hm0 : 0 ≤ most) (hm : most ≤ 1000000000) (hc : h.cost ≤ 100000000000) (hc0 : 0 ≤ h.cost) (h4 : Four h.T) (a b : Nat) (ha : a < h.T.length) (hb' : b < h.T.length) :
    ∃ (r : Bool) (h' : Hp), h'.T = h.T ∧ h'.err = h.err ∧ Later h h' 0 (max (h.cost + 1) (9 * most + 1)) ∧ ∀ (w : World) (V : _root_.Fin 6 → Value) (avs : List Value), Sound hb most w V avs h →
      Calls Tryz.prog 136 #[.pointer (some ⟨hb, 0, none⟩), .int .i64 a, .int .i64 b, .bool look] w fun e w' => UniPost hb V avs most h w r h' e w' := by
  have hfl := fuel_le (c := h.cost) hc0 hm0
  obtain ⟨k1, k2, k3, k4⟩ := uniS_keep (most := most) (look := look) h4 (fuelOf most h.cost) a b h rfl hc0
  have hbs := uniS_bs (most := most) (look := look) (fuelOf most h.cost) a b h
  refine ⟨(uniS most look (fuelOf most h.cost) a b h).1, (uniS most look (fuelOf most h.cost) a b h).2, k1, k2, ⟨by rw [k1]; exact List.prefix_refl _, by rw [k1]; omega, by omega, by omega, hbs⟩, fun w V avs S => ?_⟩
  refine (unify_x look hm (fuelOf most h.cost) S.H S.f4 S.c0 (by omega) (by unfold fuelOf; omega) (by omega) a b ha hb').mono ?_
  rintro e w' ⟨rfl, V', H', F', v3⟩
  exact ⟨rfl, V', ⟨H', by rw [k1]; exact S.f4, by rw [k1]; exact S.nums, by have := S.c0; omega⟩, F', v3⟩
theorem Later.refl (h : Hp) {k : Nat} {M : Int} (hM : h.cost ≤ M) : Later h h k M := ⟨List.prefix_refl _, by omega, Int.le_refl _, hM, Nat.le_refl _⟩
theorem Later.mono {h h' : Hp} {k k' : Nat} {M M' : Int} (q : Later h h' k M) (hk : k ≤ k') (hM : M ≤ M') : Later h h' k' M' := ⟨q.T, by have := q.len; omega, q.lo, by have := q.hi; omega, q.bs⟩
theorem Sound.below {hb : Nat} {most : Int} {w w' : World} {V : _root_.Fin 6 → Value} {avs : List Value} {h : Hp} (S : Sound hb most w V avs h) (hB : Below w.heap.size w w') : Sound hb most w' V avs h := ⟨S.H.below hB, S.f4, S.nums, S.c0⟩
theorem one_of {α : Type} : ∀ {l : List α}, l.length = 1 → ∃ a, l = [a]
  | [a], _ => ⟨a, rfl⟩
section
variable {w : World} {hb : Nat} {V : _root_.Fin 6 → Value} {avs : List Value} {most : Int} {h : Hp} {ao : Option Addr} {cap : Nat} {nm : ByteArray}
theorem test0 (S : Sound hb most w V avs h) (hl : nm.toList = [116, 114, 117, 101] ∨ nm.toList = [102, 97, 105, 108]) (v : Value) :
    Calls Tryz.prog 176 #[.pointer (some ⟨hb, 0, none⟩), .string nm, v] w fun e w' => StepPost hb V most h 1 (max (h.cost + 2) (9 * most + 2)) w e w' := by
  have HS := hide S
  clear S
  rcases hl with hl | hl
  · go_enter Tryz.func176, Tryz.ntmps176
    go_wp2_with fail
    go_ret
    exact ⟨_, h, V, avs, rfl, HS.out, HFr.refl _ _ _, Later.refl _ (by omega)⟩
  · go_enter Tryz.func176, Tryz.ntmps176
    go_wp2_with fail
    go_ret
    exact ⟨_, h, V, avs, rfl, HS.out, HFr.refl _ _ _, Later.refl _ (by omega)⟩
theorem test1 (S : Sound hb most w V avs h) (a : Nat) (ho : w.ownsRow 0 3 1 (.slice ao 1 cap) 1 (intsV [a])) (ha : a < h.T.length)
    (hl : nm.toList = [118, 97, 114] ∨ nm.toList = [110, 111, 110, 118, 97, 114] ∨ nm.toList = [97, 116, 111, 109] ∨ nm.toList = [105, 110, 116, 101, 103, 101, 114]) :
    Calls Tryz.prog 176 #[.pointer (some ⟨hb, 0, none⟩), .string nm, .slice ao 1 cap] w fun e w' => StepPost hb V most h 1 (max (h.cost + 2) (9 * most + 2)) w e w' := by
  obtain ⟨g5, cap5, e5, a5, b5, l5, j5, k5⟩ := own_cell (j := 0) (u := .int .i64 a) ho (by simp [intsV])
  cases e5
  have hcap : 1 ≤ cap := by simpa using a5
  have hhz := S.H.tab.H.lt_size
  have hsm := S.H.small
  have hrl := wk_lt S.H.ok a ha
  obtain ⟨g0, p0, _, _, c0, _, l0, _, _, _, _, _, k0, _⟩ := hp_cells S.H _ hrl
  have HW : Hid (∀ w', Below w.heap.size w w' → Calls Tryz.prog 98 #[.pointer (some ⟨hb, 0, none⟩), .int .i64 a] w' fun e w'' => e = .returned (.int .i64 (wk h.bs a)) ∧ w'' = w') := fun w' hB => walk_x (S.below hB).H a ha
  have HR : Hid (∀ b w', Below w.heap.size w w' → StepPost hb V most h 1 (max (h.cost + 2) (9 * most + 2)) w (.returned (.bool b)) w') := fun b w' hB => ⟨b, h, V, avs, rfl, S.below hB, HFr.of_below hB, Later.refl _ (by omega)⟩
  clear S ho
  generalize (nd h.T (wk h.bs a)).k = K at *
  generalize wk h.bs a = r at *
  rcases hl with hl | hl | hl | hl
  all_goals
    go_enter Tryz.func176, Tryz.ntmps176
    go_wp2_with fail
    go_region_held (fun w' => w'.cell? ⟨hb, 0, none⟩ = some (.slice (some ⟨g0, 0, none⟩) h.T.length p0) ∧ w'.cell? ⟨g5, 0, none⟩ = some (.int .i64 a) ∧ w'.cell? ⟨g0, r, none⟩ = some (.int .u8 K)) (first | exact ⟨c0, k5, k0⟩ | go_keep) (first | (go_at_call 98; refine (HW.out _ (by first | exact Below.refl _ _ | exact (Below.refl _ _).drew | exact below_drewN (Below.refl _ _) _)).mono ?_; rintro e w3 ⟨rfl, rfl⟩))
    all_goals
      go_wp2_with fail
      all_goals go_ret
      all_goals exact HR.out _ _ (by first | exact Below.refl _ _ | exact (Below.refl _ _).drew | exact below_drewN (Below.refl _ _) _)
theorem row_later {w w' : World} {hb : Nat} {V V' : _root_.Fin 6 → Value} {v : Value} {l : List Nat} {g cp j : Nat} (ho : w.ownsRow 0 3 1 v l.length (intsV l)) (hvn : ∀ b, v.ownBlock = some b → ¬ HM hb V b) (hf : HFr hb V V' w w') (hv : v = .slice (some ⟨g, 0, none⟩) l.length cp) (hj : j < l.length) : w'.cell? ⟨g, j, none⟩ = some (.int .i64 l[j]) := by
  have h1 := own_hfr ho hf hvn
  obtain ⟨g5, cap5, e5, a5, b5, l5, j5, k5⟩ := own_cell (j := j) (u := .int .i64 l[j]) h1 (by simp [intsV, hj])
  rw [hv] at e5
  cases e5
  exact k5
theorem testU (S : Sound hb most w V avs h) (hm0 : 0 ≤ most) (hm : most ≤ 1000000000) (hc : h.cost ≤ 100000000000) (a b : Nat) (ho : w.ownsRow 0 3 1 (.slice ao 2 cap) 2 (intsV [a, b])) (hvn : ∀ b, (Value.slice ao 2 cap).ownBlock = some b → ¬ HM hb V b) (ha : a < h.T.length) (hb' : b < h.T.length)
    (hl : nm.toList = [61] ∨ nm.toList = [61, 61]) :
    Calls Tryz.prog 176 #[.pointer (some ⟨hb, 0, none⟩), .string nm, .slice ao 2 cap] w fun e w' => StepPost hb V most h 1 (max (h.cost + 2) (9 * most + 2)) w e w' := by
  obtain ⟨g5, cap5, e5, a5, b5, l5, j5, k5⟩ := own_cell (j := 0) (u := .int .i64 a) ho (by simp [intsV])
  cases e5
  obtain ⟨g6, cap6, e6, a6, b6, l6, j6, k6⟩ := own_cell (j := 1) (u := .int .i64 b) ho (by simp [intsV])
  cases e6
  have HU : ∀ look, ∃ r : Bool, Hid (∀ w', Below w.heap.size w w' → Calls Tryz.prog 136 #[.pointer (some ⟨hb, 0, none⟩), .int .i64 a, .int .i64 b, .bool look] w' fun e w'' => e = .returned (.bool r) ∧ StepPost hb V most h 1 (max (h.cost + 2) (9 * most + 2)) w (.returned (.bool r)) w'' ∧ w''.cell? ⟨g5, 0, none⟩ = some (.int .i64 a) ∧ w''.cell? ⟨g5, 1, none⟩ = some (.int .i64 b)) := fun look => by
    obtain ⟨r, h', eT, eE, L', hU⟩ := unify_s (hb := hb) h look hm0 hm hc S.c0 S.f4 a b ha hb'
    refine ⟨r, fun w' hB => (hU w' V avs (S.below hB)).mono ?_⟩
    rintro e w3 ⟨rfl, V', S', F', v3⟩
    have F2 := (HFr.of_below (hb := hb) (V := V) hB).trans F'
    exact ⟨rfl, ⟨r, h', V', avs, rfl, S', F2, L'.mono (by omega) (by omega)⟩, row_later (l := [a, b]) (j := 0) ho hvn F2 rfl (by simp), row_later (l := [a, b]) (j := 1) ho hvn F2 rfl (by simp)⟩
  clear S ho hvn
  have hcap : 2 ≤ cap := by simpa using a5
  rcases hl with hl | hl
  · obtain ⟨r, HR⟩ := HU false
    clear HU
    go_enter Tryz.func176, Tryz.ntmps176
    go_wp2_with fail
    go_region_held (fun w' => w'.cell? ⟨g5, 0, none⟩ = some (.int .i64 a) ∧ w'.cell? ⟨g5, 1, none⟩ = some (.int .i64 b)) (first | exact ⟨k5, k6⟩ | exact hS5 | go_keep) (first | (go_at_call 136; refine (HR.out _ (by first | exact Below.refl _ _ | exact (Below.refl _ _).drew | exact below_drewN (Below.refl _ _) _)).mono ?_; rintro e w3 ⟨rfl, hP, hS5⟩))
    all_goals
      go_wp2_with fail
      go_ret
      exact hP
  · obtain ⟨r, HR⟩ := HU true
    clear HU
    go_enter Tryz.func176, Tryz.ntmps176
    go_wp2_with fail
    go_region_held (fun w' => w'.cell? ⟨g5, 0, none⟩ = some (.int .i64 a) ∧ w'.cell? ⟨g5, 1, none⟩ = some (.int .i64 b)) (first | exact ⟨k5, k6⟩ | exact hS5 | go_keep) (first | (go_at_call 136; refine (HR.out _ (by first | exact Below.refl _ _ | exact (Below.refl _ _).drew | exact below_drewN (Below.refl _ _) _)).mono ?_; rintro e w3 ⟨rfl, hP, hS5⟩))
    all_goals
      go_wp2_with fail
      go_ret
      exact hP
theorem testNot (S : Sound hb most w V avs h) (hm0 : 0 ≤ most) (hm : most ≤ 1000000000) (hc : h.cost ≤ 100000000000) (a b : Nat) (ho : w.ownsRow 0 3 1 (.slice ao 2 cap) 2 (intsV [a, b])) (hvn : ∀ b, (Value.slice ao 2 cap).ownBlock = some b → ¬ HM hb V b) (ha : a < h.T.length) (hb' : b < h.T.length)
    (hl : nm.toList = [92, 61]) :
    Calls Tryz.prog 176 #[.pointer (some ⟨hb, 0, none⟩), .string nm, .slice ao 2 cap] w fun e w' => StepPost hb V most h 1 (max (h.cost + 2) (9 * most + 2)) w e w' := by
  obtain ⟨g5, cap5, e5, a5, b5, l5, j5, k5⟩ := own_cell (j := 0) (u := .int .i64 a) ho (by simp [intsV])
  cases e5
  obtain ⟨g6, cap6, e6, a6, b6, l6, j6, k6⟩ := own_cell (j := 1) (u := .int .i64 b) ho (by simp [intsV])
  cases e6
  obtain ⟨r, h', eT, eE, L', hU⟩ := unify_s (hb := hb) h false hm0 hm hc S.c0 S.f4 a b ha hb'
  have HU : Hid (∀ w', Below w.heap.size w w' → Calls Tryz.prog 136 #[.pointer (some ⟨hb, 0, none⟩), .int .i64 a, .int .i64 b, .bool false] w' fun e w'' => e = .returned (.bool r) ∧ (∃ V', Sound hb most w'' V' avs h' ∧ HFr hb V V' w w'') ∧ w''.cell? ⟨g5, 0, none⟩ = some (.int .i64 a) ∧ w''.cell? ⟨g5, 1, none⟩ = some (.int .i64 b)) := fun w' hB => by
    refine (hU w' V avs (S.below hB)).mono ?_
    rintro e w3 ⟨rfl, V', S', F', v3⟩
    have F2 := (HFr.of_below (hb := hb) (V := V) hB).trans F'
    exact ⟨rfl, ⟨V', S', F2⟩, row_later (l := [a, b]) (j := 0) ho hvn F2 rfl (by simp), row_later (l := [a, b]) (j := 1) ho hvn F2 rfl (by simp)⟩
  have hlen5 : (tabC h.T avs (tosOf h.T.length h.bs) (trOf h.bs) 5).length = h.bs.length := by simp [tabC, trOf]
  obtain ⟨ao5, cap7, e7⟩ := row_form (S.H.tab.H.own 5)
  rw [hlen5] at e7
  have c5 : w.cell? ⟨hb, 5, none⟩ = some (.slice ao5 h.bs.length cap7) := by rw [← e7]; exact S.H.tab.H.c 5
  have hhz := S.H.tab.H.lt_size
  have hsm := S.H.small
  have hbl := bs_small S.H.ok
  have HUN := hide (fun (w3 : World) (V3 : _root_.Fin 6 → Value) (S3 : Sound hb most w3 V3 avs h') => undo_x S3.H h.bs.length L'.bs)
  have hcap : 2 ≤ cap := by simpa using a5
  have HL := hide L'
  clear S ho e7 hlen5 hvn hU eT eE L'
  go_enter Tryz.func176, Tryz.ntmps176
  go_wp2_with fail
  go_region_held (fun w' => w'.cell? ⟨g5, 0, none⟩ = some (.int .i64 a) ∧ w'.cell? ⟨g5, 1, none⟩ = some (.int .i64 b)) (first | exact ⟨k5, k6⟩ | exact hS5 | go_keep) (first | (go_at_call 136; refine (HU.out _ (by first | exact Below.refl _ _ | exact (Below.refl _ _).drew | exact below_drewN (Below.refl _ _) _)).mono ?_; rintro e w3 ⟨rfl, ⟨V', S', F'⟩, hS5⟩))
  all_goals
    go_wp2_with (go_at_call 90; refine (HUN.out _ _ S').mono ?_; rintro e w4 ⟨rfl, V4, H4, F4⟩)
    go_ret
    have L' := HL.out
    refine ⟨_, h'.undo h.bs.length, V4, avs, rfl, ⟨H4, S'.f4, S'.nums, S'.c0⟩, F'.trans F4, ⟨L'.T, by have := L'.len; show h'.T.length ≤ _; omega, L'.lo, by have := L'.hi; show h'.cost ≤ _; omega, ?_⟩⟩
    have := L'.bs
    simp only [Hp.undo, List.length_drop]
    omega
end
theorem value_s {w : World} {hb : Nat} {V : _root_.Fin 6 → Value} {avs : List Value} {most : Int} {h : Hp} (S : Sound hb most w V avs h) (hm0 : 0 ≤ most) (hm : most ≤ 1000000000) (hc : h.cost ≤ 10000000000) (t : Nat) (ht : t < h.T.length) :
    Calls Tryz.prog 221 #[.pointer (some ⟨hb, 0, none⟩), .int .i64 t] w fun e w' => ∃ (r c er : Int), e = .returned (.int .i64 r) ∧ I64 r ∧ Sound hb most w' V avs { h with cost := c, err := er } ∧ HFr hb V V w w' ∧ h.cost + 1 ≤ c ∧ c ≤ max (h.cost + 1) (3 * most + 1) := by
  have hfl := fuel_le (c := h.cost) S.c0 hm0
  refine (value_x hm (fuelOf most h.cost) S.H S.nums S.c0 (by omega) (by unfold fuelOf; omega) (by omega) t ht).mono ?_
  rintro e w' ⟨r, c, er, q1, q2, q3, q4, q5, q6, q7⟩
  exact ⟨r, c, er, q1, q2, ⟨q3, S.f4, S.nums, by have := S.c0; show 0 ≤ c; omega⟩, q4, q5, by omega⟩
theorem add_s {w : World} {hb : Nat} {V : _root_.Fin 6 → Value} {avs : List Value} {most : Int} {h : Hp} (S : Sound hb most w V avs h) (hs : h.T.length + 1 ≤ 1000000000) (r : Int) (hr : I64 r) :
    Calls Tryz.prog 87 #[.pointer (some ⟨hb, 0, none⟩), .int .u8 110, .string ByteArray.empty, .int .i64 r, .slice none 0 0] w fun e w' => e = .returned (.int .i64 h.T.length) ∧ ∃ V' avs', Sound hb most w' V' avs' { h with T := h.T ++ [⟨110, ByteArray.empty, r, []⟩] } ∧ HFr hb V V' w w' := by
  have hl2 : (tabC h.T avs (tosOf h.T.length h.bs) (trOf h.bs) 0).length = h.T.length := by simp [tabC]
  have hbl := bs_small S.H.ok
  have hlt : (tosOf h.T.length h.bs).length = h.T.length := by simp [tosOf]
  have := add_any S.H.tab.H (tabC_len S.H.tab.la hlt 1000000000 S.H.small (by rw [trOf_len]; omega)) 110 ByteArray.empty r none 0 0
  rw [hl2] at this
  refine this.mono ?_
  rintro e w' ⟨rfl, V', hH, hf⟩
  exact ⟨rfl, V', _, ⟨S.H.add (ags := []) (as_own_nil _) (by simp [Value.ownBlock]) (by simp) hs hH hf, S.f4.add (by simp), S.nums.add ⟨hr, Nat.zero_le 2000⟩, S.c0⟩, hf⟩
section
variable {w : World} {hb : Nat} {V : _root_.Fin 6 → Value} {avs : List Value} {most : Int} {h : Hp} {ao : Option Addr} {cap : Nat} {nm : ByteArray}
theorem testIs (S : Sound hb most w V avs h) (hm0 : 0 ≤ most) (hm : most ≤ 1000000000) (hc : h.cost ≤ 10000000000) (hs : h.T.length + 1 ≤ 1000000000) (a b : Nat) (ho : w.ownsRow 0 3 1 (.slice ao 2 cap) 2 (intsV [a, b])) (hvn : ∀ b, (Value.slice ao 2 cap).ownBlock = some b → ¬ HM hb V b) (ha : a < h.T.length) (hb' : b < h.T.length)
    (hl : nm.toList = [105, 115]) :
    Calls Tryz.prog 176 #[.pointer (some ⟨hb, 0, none⟩), .string nm, .slice ao 2 cap] w fun e w' => StepPost hb V most h 1 (max (h.cost + 2) (9 * most + 2)) w e w' := by
  obtain ⟨g5, cap5, e5, a5, b5, l5, j5, k5⟩ := own_cell (j := 0) (u := .int .i64 a) ho (by simp [intsV])
  cases e5
  obtain ⟨g6, cap6, e6, a6, b6, l6, j6, k6⟩ := own_cell (j := 1) (u := .int .i64 b) ho (by simp [intsV])
  cases e6
  have hcap : 2 ≤ cap := by simpa using a5
  have HV := hide (value_s S hm0 hm hc b hb')
  have HSP := hide (fun (w3 : World) (c er : Int) (h3 : Sound hb most w3 V avs { h with cost := c, err := er }) => spent_x h3.H.tab.H)
  have HA := hide (fun (w3 : World) (c er r : Int) (hr : I64 r) (h3 : Sound hb most w3 V avs { h with cost := c, err := er }) => add_s h3 hs r hr)
  have HU := hide (fun (c er r : Int) (hc0 : 0 ≤ c) (hc1 : c ≤ 100000000000) (hf : Four (h.T ++ [(⟨110, ByteArray.empty, r, []⟩ : Nd)])) => unify_s (hb := hb) (most := most) { h with cost := c, err := er, T := h.T ++ [⟨110, ByteArray.empty, r, []⟩] } false hm0 hm hc1 hc0 hf a h.T.length (by show a < (h.T ++ _).length; simp; omega) (by show h.T.length < (h.T ++ _).length; simp))
  have HK : Hid (∀ V' w', HFr hb V V' w w' → w'.cell? ⟨g5, 0, none⟩ = some (.int .i64 a)) := fun V' w' F => row_later (l := [a, b]) (j := 0) ho hvn F rfl (by simp)
  have hc0 := S.c0
  clear S ho hvn
  go_enter Tryz.func176, Tryz.ntmps176
  go_wp2_with (first | (go_at_call 221; refine HV.out.mono ?_; rintro e w3 ⟨r, c, er, rfl, hr, S3, F3, lo, hi⟩) | (go_at_call 88; refine (HSP.out _ _ _ S3).mono ?_; rintro e w4 ⟨rfl, n4, rfl⟩) | (go_at_call 87; refine (HA.out _ _ _ _ hr (S3.below (below_drewN (Below.refl _ _) n4))).mono ?_; rintro e w5 ⟨rfl, V5, avs5, S5, F5⟩; have F6 := (F3.trans (HFr.of_below (below_drewN (Below.refl _ _) n4))).trans F5; have k7 := HK.out _ _ F6; obtain ⟨r6, h6, eT6, eE6, L6, hU6⟩ := HU.out c er r (by omega) (by omega) S5.f4) | (go_at_call 136; refine (hU6 _ _ _ S5).mono ?_; rintro e w7 ⟨rfl, V7, S7, F7, v7⟩))
  all_goals go_ret
  · exact ⟨_, _, _, _, rfl, S3.below (below_drewN (Below.refl _ _) n4), F3.trans (HFr.of_below (below_drewN (Below.refl _ _) n4)), ⟨List.prefix_refl _, Nat.le_succ _, by show h.cost ≤ c; omega, by show c ≤ _; omega, Nat.le_refl _⟩⟩
  · refine ⟨_, _, _, _, rfl, S7, F6.trans F7, ⟨?_, ?_, ?_, ?_, ?_⟩⟩
    · rw [eT6]; exact ⟨_, rfl⟩
    · rw [eT6]; simp
    · have q : c ≤ h6.cost := L6.lo; omega
    · have q : h6.cost ≤ max (c + 1) (9 * most + 1) := L6.hi; omega
    · exact L6.bs
theorem testCmp (S : Sound hb most w V avs h) (hm0 : 0 ≤ most) (hm : most ≤ 1000000000) (hc : h.cost ≤ 1000000000) (a b : Nat) (ho : w.ownsRow 0 3 1 (.slice ao 2 cap) 2 (intsV [a, b])) (hvn : ∀ b, (Value.slice ao 2 cap).ownBlock = some b → ¬ HM hb V b) (ha : a < h.T.length) (hb' : b < h.T.length)
    (hl : nm.toList = [60] ∨ nm.toList = [62] ∨ nm.toList = [61, 60] ∨ nm.toList = [62, 61] ∨ nm.toList = [61, 58, 61]) :
    Calls Tryz.prog 176 #[.pointer (some ⟨hb, 0, none⟩), .string nm, .slice ao 2 cap] w fun e w' => StepPost hb V most h 1 (max (h.cost + 2) (9 * most + 2)) w e w' := by
  obtain ⟨g5, cap5, e5, a5, b5, l5, j5, k5⟩ := own_cell (j := 0) (u := .int .i64 a) ho (by simp [intsV])
  cases e5
  have hcap : 2 ≤ cap := by simpa using a5
  have HV := hide (value_s S hm0 hm (by omega) a ha)
  have HV2 := hide (fun (w3 : World) (c er : Int) (hc1 : c ≤ 10000000000) (h3 : Sound hb most w3 V avs { h with cost := c, err := er }) => value_s h3 hm0 hm hc1 b hb')
  have HSP := hide (fun (w3 : World) (c er : Int) (h3 : Sound hb most w3 V avs { h with cost := c, err := er }) => spent_x h3.H.tab.H)
  have HK : Hid (∀ V' w', HFr hb V V' w w' → w'.cell? ⟨g5, 1, none⟩ = some (.int .i64 b)) := fun V' w' F => row_later (l := [a, b]) (j := 1) ho hvn F rfl (by simp)
  have hc0 := S.c0
  have HR : Hid (∀ (w3 : World) (c er : Int) (x : Bool), Sound hb most w3 V avs { h with cost := c, err := er } → HFr hb V V w w3 → h.cost + 1 ≤ c → c ≤ max (h.cost + 2) (9 * most + 2) → StepPost hb V most h 1 (max (h.cost + 2) (9 * most + 2)) w (.returned (.bool x)) w3) := fun w3 c er x q1 q2 q3 q4 =>
    ⟨x, _, _, _, rfl, q1, q2, ⟨List.prefix_refl _, Nat.le_succ _, by show h.cost ≤ c; omega, q4, Nat.le_refl _⟩⟩
  clear S ho hvn
  rcases hl with hl | hl | hl | hl | hl
  all_goals
    go_enter Tryz.func176, Tryz.ntmps176
    go_wp2_with (first | (go_at_call 221; first | (refine (HV2.out _ c er (by omega) (S3.below (below_drewN (Below.refl _ _) n4))).mono ?_; rintro e w5 ⟨r5, c5, er5, rfl, hr5, S5, F5, lo5, hi5⟩) | (refine HV.out.mono ?_; rintro e w3 ⟨r, c, er, rfl, hr, S3, F3, lo, hi⟩)) | (go_at_call 88; refine (HSP.out _ _ _ S3).mono ?_; rintro e w4 ⟨rfl, n4, rfl⟩; have F6 := F3.trans (HFr.of_below (below_drewN (Below.refl _ _) n4)); have k7 := HK.out _ _ F6))
    all_goals go_ret
    · exact HR.out _ _ _ _ (S3.below (below_drewN (Below.refl _ _) n4)) F6 lo (by omega)
    · have lo6 : c + 1 ≤ c5 := lo5
      have hi6 : c5 ≤ max (c + 1) (3 * most + 1) := hi5
      exact HR.out _ _ _ _ S5 (F6.trans F5) (by omega) (by omega)
theorem tests_cases {al : List Nat} (hn : testsN nm = (al.length : Int)) :
    ((nm.toList = [116, 114, 117, 101] ∨ nm.toList = [102, 97, 105, 108]) ∧ al.length = 0) ∨
    ((nm.toList = [118, 97, 114] ∨ nm.toList = [110, 111, 110, 118, 97, 114] ∨ nm.toList = [97, 116, 111, 109] ∨ nm.toList = [105, 110, 116, 101, 103, 101, 114]) ∧ al.length = 1) ∨
    (((nm.toList = [61] ∨ nm.toList = [61, 61]) ∨ nm.toList = [92, 61] ∨ nm.toList = [105, 115] ∨ (nm.toList = [60] ∨ nm.toList = [62] ∨ nm.toList = [61, 60] ∨ nm.toList = [62, 61] ∨ nm.toList = [61, 58, 61])) ∧ al.length = 2) := by
  unfold testsN testsL at hn
  split at hn
  · rename_i h1
    left
    simp only [Bool.or_eq_true, beq_iff_eq] at h1
    exact ⟨h1, by omega⟩
  · split at hn
    · rename_i h1
      right; left
      simp only [Bool.or_eq_true, beq_iff_eq] at h1
      exact ⟨by rcases h1 with ((h1 | h1) | h1) | h1 <;> simp [h1], by omega⟩
    · split at hn
      · rename_i h1
        right; right
        simp only [Bool.or_eq_true, beq_iff_eq] at h1
        exact ⟨by rcases h1 with (((((((h1 | h1) | h1) | h1) | h1) | h1) | h1) | h1) | h1 <;> simp [h1], by omega⟩
      · omega
theorem test_s (S : Sound hb most w V avs h) (hm0 : 0 ≤ most) (hm : most ≤ 1000000000) (hc : h.cost ≤ 1000000000) (hs : h.T.length + 1 ≤ 1000000000) (al : List Nat) (ho : w.ownsRow 0 3 1 (.slice ao al.length cap) al.length (intsV al)) (hvn : ∀ b, (Value.slice ao al.length cap).ownBlock = some b → ¬ HM hb V b) (hal : ∀ a ∈ al, a < h.T.length) (hn : testsN nm = (al.length : Int)) :
    Calls Tryz.prog 176 #[.pointer (some ⟨hb, 0, none⟩), .string nm, .slice ao al.length cap] w fun e w' => StepPost hb V most h 1 (max (h.cost + 2) (9 * most + 2)) w e w' := by
  rcases tests_cases hn with ⟨h1, h2⟩ | ⟨h1, h2⟩ | ⟨h1, h2⟩
  · exact test0 S h1 _
  · obtain ⟨a, rfl⟩ := one_of h2
    exact test1 S a ho (hal a (by simp)) h1
  · obtain ⟨a, b, rfl⟩ := two_of h2
    have ha := hal a (by simp)
    have hb' := hal b (by simp)
    rcases h1 with h1 | h1 | h1 | h1
    · exact testU S hm0 hm (by omega) a b ho hvn ha hb' h1
    · exact testNot S hm0 hm (by omega) a b ho hvn ha hb' h1
    · exact testIs S hm0 hm (by omega) hs a b ho hvn ha hb' h1
    · exact testCmp S hm0 hm hc a b ho hvn ha hb' h1
end
structure TabB (bs : List (Nat × Nat)) (er : Int) (w : World) (hb : Nat) (V : _root_.Fin 6 → Value) (T : List Nd) (avs : List Value) (cost most : Int) : Prop where
  tab : Tab w hb V T avs (tosOf T.length bs) (trOf bs) cost most er
  ok : BsOk T.length bs
section
variable {bs : List (Nat × Nat)} {er : Int} {w w' : World} {hb : Nat} {V V' : _root_.Fin 6 → Value} {T : List Nd} {avs : List Value} {cost most : Int}
theorem TabB.H (h : TabB bs er w hb V T avs cost most) : HIn w hb V (tabC T avs (tosOf T.length bs) (trOf bs)) cost most er := h.tab.H
theorem TabB.la (h : TabB bs er w hb V T avs cost most) : avs.length = T.length := h.tab.la
theorem TabB.keep (h : TabB bs er w hb V T avs cost most) (hk : ∀ b, HM hb V b → w'.heap[b]? = w.heap[b]?)
    (hk2 : ∀ u ∈ avs, ∀ b, u.ownBlock = some b → w'.heap[b]? = w.heap[b]?) : TabB bs er w' hb V T avs cost most :=
  ⟨⟨h.H.keep hk, h.la, h.tab.lt, fun i hi hi' => ⟨own_keep (h.tab.args i hi hi').1 (fun b q => hk2 _ (List.getElem_mem hi') b q), (h.tab.args i hi hi').2⟩⟩, h.ok⟩
theorem TabB.alt (h : TabB bs er w hb V T avs cost most) : ∀ u ∈ avs, ∀ b, u.ownBlock = some b → b < w.heap.size := by
  intro u hu b q
  obtain ⟨i, hi, rfl⟩ := List.getElem_of_mem hu
  exact ((h.tab.args i (by rw [← h.la]; exact hi) hi).1.lt b q).2
theorem TabB.below (h : TabB bs er w hb V T avs cost most) (hB : Below w.heap.size w w') : TabB bs er w' hb V T avs cost most :=
  h.keep (fun b q => hB.block b (h.H.mlt b q)) (fun u hu b q => hB.block b (h.alt u hu b q))
theorem TabB.add {k : Int} {nm : ByteArray} {n : Int} {av : Value} {ags : List Nat}
    (h : TabB bs er w hb V T avs cost most) (ho : w.ownsRow 0 3 1 av ags.length (intsV ags)) (hn : ∀ b, av.ownBlock = some b → ¬ HM hb V b)
    (hH : HIn w' hb V' (addC (tabC T avs (tosOf T.length bs) (trOf bs)) k nm n av) cost most er) (hf : HFr hb V V' w w') : TabB bs er w' hb V' (T ++ [⟨k, nm, n, ags⟩]) (avs ++ [av]) cost most := by
  have hT := Tab.add h.tab ho hn hH hf
  refine ⟨?_, h.ok.mono (by simp)⟩
  have e : tosOf (T ++ [(⟨k, nm, n, ags⟩ : Nd)]).length bs = tosOf T.length bs ++ [-1] := by rw [List.length_append]; exact tosOf_snoc h.ok
  rw [e]; exact hT
theorem TabB.len (h : TabB bs er w hb V T avs cost most) (hT : T.length ≤ 1000000000) : ∀ i, (tabC T avs (tosOf T.length bs) (trOf bs) i).length ≤ 1000000000 :=
  tabC_len h.la (by simp [tosOf]) 1000000000 hT (by rw [trOf_len]; have := bs_small h.ok; omega)
end
section
variable {bs : List (Nat × Nat)} {er : Int}
def MadePostB (bs : List (Nat × Nat)) (er : Int) (hb : Nat) (V : _root_.Fin 6 → Value) (vl : List Nat) (x : Ex) (T : List Nd) (avs : List Value) (cost most : Int) (w : World) (e : Ending) (w' : World) : Prop :=
  e = .returned (.int .i64 (madeS vl x T).1) ∧ ∃ V' avs2, TabB bs er w' hb V' (madeS vl x T).2 (avs ++ avs2) cost most ∧ HFr hb V V' w w' ∧ ∀ u ∈ avs2, ∀ b, u.ownBlock = some b → w.heap.size ≤ b
structure MadeAtB (bs : List (Nat × Nat)) (er : Int) (w0 : World) (hb : Nat) (V : _root_.Fin 6 → Value) (avs : List Value) (cost most : Int) (v : Value) (idx : List Nat) (wr : World) (V1 : _root_.Fin 6 → Value) (T1 : List Nd) (avs2 : List Value) : Prop where
  T : TabB bs er wr hb V1 T1 (avs ++ avs2) cost most
  fr : HFr hb V V1 w0 wr
  own : wr.ownsRow w0.heap.size 3 1 v idx.length (intsV idx)
  vn : ∀ b, v.ownBlock = some b → ¬ HM hb V1 b
  va : ∀ u ∈ avs ++ avs2, ∀ b, u.ownBlock = some b → v.ownBlock ≠ some b
  new : ∀ u ∈ avs2, ∀ b, u.ownBlock = some b → w0.heap.size ≤ b
theorem madeB_step {w0 wr w1 w2 : World} {hb : Nat} {V V1 V2 : _root_.Fin 6 → Value} {avs avs2 avs3 : List Value} {cost most : Int} {v v' : Value} {idx : List Nat} {T1 T2 : List Nd} {i : Nat} {o : Obj} (h : MadeAtB bs er w0 hb V avs cost most v idx wr V1 T1 avs2)
    (hT : TabB bs er w1 hb V2 T2 ((avs ++ avs2) ++ avs3) cost most) (hf : HFr hb V1 V2 wr w1) (hn3 : ∀ u ∈ avs3, ∀ b, u.ownBlock = some b → wr.heap.size ≤ b)
    (ho : w2.ownsRow w0.heap.size 3 1 v' (idx.length + 1) (intsV idx ++ [.int .i64 i])) (hg : (w1.alloc o).grownBy w2 v.ownBlock) (hn : ∀ b, v'.ownBlock = some b → v.ownBlock = some b ∨ w1.heap.size + 1 ≤ b) :
    MadeAtB bs er w0 hb V avs cost most v' (idx ++ [i]) w2 V2 T2 (avs2 ++ avs3) := by
  have hvn : ∀ b, v.ownBlock = some b → ¬ HM hb V2 b := fun b q => not_HM hf (h.own.lt b q).2 (h.vn b q)
  have hs0 := h.fr.size
  have hs1 := hf.size
  have hsz : (w1.alloc o).heap.size = w1.heap.size + 1 := by simp
  have hs2 := hg.size
  have hold : ∀ b, b < w1.heap.size → v.ownBlock ≠ some b → w2.heap[b]? = w1.heap[b]? := fun b hb1 hb2 => by
    rw [hg.block b (by omega) (fun e => hb2 e.symm)]; exact Below.heap_alloc _ _ _ hb1
  have hva : ∀ u ∈ avs ++ (avs2 ++ avs3), ∀ b, u.ownBlock = some b → v.ownBlock ≠ some b := by
    intro u hu b q
    rw [← List.append_assoc] at hu
    rcases List.mem_append.1 hu with hu | hu
    · exact h.va u hu b q
    · intro e; have := hn3 u hu b q; have := (h.own.lt b e).2; omega
  rw [List.append_assoc] at hT
  have halt := TabB.alt hT
  refine ⟨TabB.keep hT (fun b q => hold b (hT.H.mlt b q) (fun e => hvn b e q)) (fun u hu b q => hold b (halt u hu b q) (hva u hu b q)), ?_, ?_, ?_, ?_, ?_⟩
  · have h01 := h.fr.trans hf
    refine ⟨hg.os.trans h01.os, hg.tape.trans h01.tape, hg.output.trans h01.output, by have := h01.size; omega, fun b hb1 hb2 => ?_, h01.mnew⟩
    rw [hold b (by omega) (fun e => by have := (h.own.lt b e).1; omega)]
    exact h01.block b hb1 hb2
  · have e1 : intsV idx ++ [.int .i64 (i : Int)] = intsV (idx ++ [i]) := by simp [intsV]
    rw [← e1]; simpa using ho
  · intro b q e
    rcases hn b q with r | r
    · exact hvn b r e
    · have := hT.H.mlt b e; omega
  · intro u hu b q e
    rcases hn b e with r | r
    · exact hva u hu b q r
    · have := halt u hu b q; omega
  · intro u hu b q
    rcases List.mem_append.1 hu with hu | hu
    · exact h.new u hu b q
    · have := hn3 u hu b q; omega
def MadeOkB (bs : List (Nat × Nat)) (er : Int) (x : Ex) : Prop :=
  ∀ (w : World) (hb : Nat) (V : _root_.Fin 6 → Value) (T : List Nd) (avs : List Value) (cost most : Int) (cs : List Value) (H0 : Nat) (Ok : Nat → Prop) (ao : Option Addr) (vc : Nat) (vl : List Nat),
    TabB bs er w hb V T avs cost most → ERep w Ok x cs → (∀ b, Ok b → b < H0) → (∀ b, HM hb V b → H0 ≤ b) → H0 ≤ w.heap.size → w.ownsRow 0 3 1 (.slice ao vl.length vc) vl.length (intsV vl) →
    (∀ b, (Value.slice ao vl.length vc).ownBlock = some b → ¬ HM hb V b) → varsIn vl.length x → vl.length ≤ 13 → T.length + szE x ≤ 900000000 →
    Calls Tryz.prog 65 #[.pointer (some ⟨hb, 0, none⟩), .agg cs.toArray, .slice ao vl.length vc] w fun e w' => MadePostB bs er hb V vl x T avs cost most w e w'
theorem madeB_var (k : Nat) : MadeOkB bs er (.var k) := by
  intro w hb V T avs cost most cs H0 Ok ao vc vl hT hE hO hM hH ho hvn hvi hvl hsz
  cases hE
  have hk : k < vl.length := hvi
  rcases ho.2 with ⟨_, h0⟩ | ⟨g, cap, cur, hq, _, hgg, hcap, hmx, hcs, htk⟩
  · omega
  cases hq
  have hc : w.cell? ⟨g, k, none⟩ = some (.int .i64 vl[k]) := rowCell hgg htk (by simp [intsV, hk])
  have hgl : g < w.heap.size := (Array.getElem?_eq_some_iff.1 hgg).1
  have HV : Hid ((madeS vl (.var k) T).1 = vl[k] ∧ (madeS vl (.var k) T).2 = T) := by simp [Hid, madeS, hk]
  go_enter Tryz.func65, Tryz.ntmps65
  go_wp2_with fail
  go_ret
  refine ⟨by rw [HV.out.1]; rfl, V, [], ?_, HFr.of_below ((Below.refl _ _).alloc (Nat.le_refl _) _), by simp⟩
  rw [HV.out.2, List.append_nil]
  exact hT.below ((Below.refl _ _).alloc (Nat.le_refl _) _)
theorem madeB_node (l : List Ex) (IH : ∀ j (h : j < l.length), MadeOkB bs er l[j]) (w : World) (hb : Nat) (V : _root_.Fin 6 → Value) (T : List Nd) (avs : List Value) (cost most : Int) (H0 : Nat) (Ok : Nat → Prop) (ao : Option Addr) (vc : Nat) (vl : List Nat)
    (kk : Int) (nm : ByteArray) (nn : Int) (a1 : Option Addr) (ac : Nat) (hkk : (kk == 118) = false) (hT : TabB bs er w hb V T avs cost most) (hA : ARow w Ok l a1 ac) (hO : ∀ b, Ok b → b < H0) (hM : ∀ b, HM hb V b → H0 ≤ b) (hH : H0 ≤ w.heap.size)
    (ho : w.ownsRow 0 3 1 (.slice ao vl.length vc) vl.length (intsV vl)) (hvn : ∀ b, (Value.slice ao vl.length vc).ownBlock = some b → ¬ HM hb V b) (hvi : varsInL vl.length l) (hvl : vl.length ≤ 13) (hsz : T.length + szL l ≤ 899999999) :
    Calls Tryz.prog 65 #[.pointer (some ⟨hb, 0, none⟩), .agg #[.int .u8 kk, .string nm, .int .i64 nn, .int .i64 0, .slice a1 l.length ac], .slice ao vl.length vc] w fun e w' =>
      e = .returned (.int .i64 (madeL vl l T).2.length) ∧ ∃ V' avs2, TabB bs er w' hb V' ((madeL vl l T).2 ++ [⟨kk, nm, nn, (madeL vl l T).1⟩]) (avs ++ avs2) cost most ∧ HFr hb V V' w w' ∧ ∀ u ∈ avs2, ∀ b, u.ownBlock = some b → w.heap.size ≤ b := by
  obtain ⟨i0, hi, hz0, hz1, hz2⟩ := info_parts Tryz.infoInt
  have HIH := hide IH
  have hll : l.length ≤ 900000000 := by have := szL_len l; omega
  obtain ⟨w0, hw0⟩ : ∃ w0, w0 = w.alloc (.cells #[.int .u8 kk, .string nm, .int .i64 nn, .int .i64 0, .slice a1 l.length ac] 125) := ⟨_, rfl⟩
  have hB0 : Below w.heap.size w w0 := by rw [hw0]; exact (Below.refl _ _).alloc (Nat.le_refl _) _
  have hbx0 : w0.heap[w.heap.size]? = some (.cells #[.int .u8 kk, .string nm, .int .i64 nn, .int .i64 0, .slice a1 l.length ac] 125 (0, 0)) := by rw [hw0]; exact heap_alloc_new _ _
  have hs0 : w.heap.size < w0.heap.size := by rw [hw0]; simp
  have hT0 := hT.below hB0
  have hnx : ¬ HM hb V w.heap.size := fun e => by have := hT.H.mlt _ e; omega
  have HW := hide hw0
  clear IH
  go_enter Tryz.func65, Tryz.ntmps65
  go_wp2_with fail
  rw [← hw0]
  clear hw0
  go_loopg [7, 8] l.length (fun g v i wr => ∃ j V1 avs2, j + g = l.length ∧ i = .int .i64 (j : Nat) ∧ MadeAtB bs er w0 hb V avs cost most v (madeL vl (l.take j) T).1 wr V1 (madeL vl (l.take j) T).2 avs2)
  case atStart => exact ⟨0, V, [], by omega, rfl, by simpa [madeL] using hT0, HFr.refl _ _ _, World.ownsRow_nil _ _ _ _, by simp [Value.ownBlock], by simp [Value.ownBlock], by simp⟩
  case round =>
    obtain ⟨j, V1, avs2, hj, rfl, hA1⟩ := hrel
    have hbx : wr.heap[w.heap.size]? = some (.cells #[.int .u8 kk, .string nm, .int .i64 nn, .int .i64 0, .slice a1 l.length ac] 125 (0, 0)) := by rw [hA1.fr.block _ (by omega) hnx]; exact hbx0
    obtain ⟨c0, c1, c2, c3, c4, cf⟩ := box5 hbx
    have hs1 := hA1.fr.size
    have hlen1 := madeL_len vl (l.take j) T
    have hM1 : ∀ b, HM hb V1 b → H0 ≤ b := fun b q => (hA1.fr.mnew b q).elim (hM b) (fun r => by omega)
    have hkeep : ∀ b, Ok b → b < w.heap.size → wr.heap[b]? = w.heap[b]? := fun b q1 q2 => by
      rw [hA1.fr.block b (by omega) (fun e => by have := hM b e; have := hO b q1; omega), hB0.block b q2]
    have ho1 : wr.ownsRow 0 3 1 (.slice ao vl.length vc) vl.length (intsV vl) := own_hfr (own_below ho hB0) hA1.fr hvn
    have hvn1 : ∀ b, (Value.slice ao vl.length vc).ownBlock = some b → ¬ HM hb V1 b := fun b q => not_HM hA1.fr (by have := (ho.lt b q).2; omega) (hvn b q)
    obtain ⟨idx, hidx⟩ : ∃ i, i = (madeL vl (l.take j) T).1 := ⟨_, rfl⟩
    obtain ⟨T1, hT1⟩ : ∃ t, t = (madeL vl (l.take j) T).2 := ⟨_, rfl⟩
    rw [← hidx, ← hT1] at hA1
    rw [← hT1] at hlen1
    have HIX := hide hidx
    have HT1 := hide hT1
    clear hidx hT1
    by_cases hlt : j < l.length
    · obtain ⟨g, a, b, c, d, x, y, z, rfl, hac, hmx, hgl, hel, q0, q1, q2, q3, q4⟩ := arow_elem hA hkeep hlt
      have hszj := szL_get l j hlt
      have hidl : idx.length ≤ 900000000 := by rw [HIX.out, madeL_len1]; have := List.length_take_le j l; omega
      have HC := hide (HIH.out j hlt wr hb V1 T1 (avs ++ avs2) cost most _ H0 Ok ao vc vl hA1.T hel hO hM1 (by omega) ho1 hvn1 (varsInL_get l hvi j hlt) hvl (by omega))
      clear hkeep
      go_wp2_with (first | (go_at_call 65; refine HC.out.mono ?_; rintro e w1 ⟨rfl, V2, avs3, hT2, hf2, hn3⟩) | (at_builtin; refine wpList_append_own2 rfl (.tmp 33) (.tmp 35) 65 rfl w0.heap.size 3 i0 (.int .i64 0) 1 8 Tryz.underlyingInts hi hz0 hz1 hz2 rfl (by decide) _ _ _ rfl ((own_hfr hA1.own hf2 hA1.vn).alloc _) ⟨w1.heap.size, 0, none⟩ 1 1 [.int .i64 (madeS vl l[j] T1).1] rfl rfl (cell_one_new _ _ _) ?_ ?_ ?_ ?_ ?_) | go_in)
      · intro u hu; simp at hu; subst hu; rfl
      · unfold maxLen; omega
      · omega
      · have := hf2.size; simp; omega
      intro v' w2 hov hgv hnv
      have hS := madeB_step hA1 hT2 hf2 hn3 hov hgv hnv
      have HS := hide hS
      clear hov hgv hnv hS hT2 hf2 hn3 hA1
      go_wp2_with fail
      go_roundg (gk - 1)
      case measure => omega
      case rel =>
        have e : l.take (j + 1) = l.take j ++ [l[j]] := List.take_succ_eq_append_getElem hlt
        refine ⟨j + 1, V2, avs2 ++ avs3, by omega, by go_num, ?_⟩
        rw [e, madeL_snoc, ← HT1.out, ← HIX.out]
        exact HS.out
    · have ej : j = l.length := by omega
      subst ej
      have hl2 : (tabC T1 (avs ++ avs2) (tosOf T1.length bs) (trOf bs) 0).length = T1.length := by simp [tabC]
      have hlt1 : T1.length ≤ 1000000000 := by rw [List.take_length] at hlen1; omega
      have HA := hide (add_any hA1.T.H (hA1.T.len hlt1) kk nm nn)
      rw [hl2] at HA
      obtain ⟨va, vcap, hv⟩ := row_form hA1.own
      subst hv
      clear hl2 hkeep
      go_wp2_with (go_at_call 87; refine (HA.out _ _ _).mono ?_; rintro e w1 ⟨rfl, V2, hH2, hf2⟩)
      go_ret
      have e1 := HT1.out
      have e2 := HIX.out
      rw [List.take_length] at e1 e2
      rw [← e1, ← e2]
      have hT2 := TabB.add hA1.T (ags := idx) (ownsRow_base hA1.own (Nat.zero_le _)) hA1.vn hH2 hf2
      rw [List.append_assoc] at hT2
      refine ⟨rfl, V2, _, hT2, (HFr.of_below hB0).trans (hA1.fr.trans hf2), fun u hu b q => ?_⟩
      rcases List.mem_append.1 hu with hu | hu
      · have := hA1.new u hu b q; omega
      · have hu' := List.mem_singleton.1 hu
        subst hu'
        have := (hA1.own.lt b q).1; omega
theorem madeB_any : ∀ (m : Nat) (x : Ex), szE x ≤ m → MadeOkB bs er x
  | 0, x, h => by have := szE_pos x; omega
  | m + 1, .var k, _ => madeB_var k
  | m + 1, .atom n, _ => by
    intro w hb V T avs cost most cs H0 Ok ao vc vl hT hE hO hM hH ho hvn hvi hvl hsz
    cases hE
    have h := madeB_node [] (fun j h => absurd h (by simp)) w hb V T avs cost most H0 Ok ao vc vl 97 n 0 none 0 (by decide) hT (.inl ⟨rfl, rfl, rfl⟩) hO hM hH ho hvn trivial hvl (by simp [szE, szL] at hsz ⊢; omega)
    refine h.mono fun e w' he => ?_
    unfold MadePostB
    simpa [madeS, madeL] using he
  | m + 1, .num v, _ => by
    intro w hb V T avs cost most cs H0 Ok ao vc vl hT hE hO hM hH ho hvn hvi hvl hsz
    cases hE
    have h := madeB_node [] (fun j h => absurd h (by simp)) w hb V T avs cost most H0 Ok ao vc vl 110 ByteArray.empty v none 0 (by decide) hT (.inl ⟨rfl, rfl, rfl⟩) hO hM hH ho hvn trivial hvl (by simp [szE, szL] at hsz ⊢; omega)
    refine h.mono fun e w' he => ?_
    unfold MadePostB
    simpa [madeS, madeL] using he
  | m + 1, .cmp n args, hm => by
    intro w hb V T avs cost most cs H0 Ok ao vc vl hT hE hO hM hH ho hvn hvi hvl hsz
    cases hE with
    | cmp _ _ g cap cur cs' h1 h2 h3 h4 h5 h6 h7 =>
      have h := madeB_node args (fun j hj => madeB_any m args[j] (by have := sizeOf_get args n j hj; omega)) w hb V T avs cost most H0 Ok ao vc vl 99 n 0 (some ⟨g, 0, none⟩) cap (by decide) hT (.inr ⟨g, cur, cs', rfl, h1, h2, h3, h4, h5, h6, h7⟩) hO hM hH ho hvn hvi hvl (by simp [szE] at hsz; omega)
      exact h
end
structure FreshB (bs : List (Nat × Nat)) (er : Int) (w : World) (hb : Nat) (V : _root_.Fin 6 → Value) (T : List Nd) (avs : List Value) (cost most : Int) (k : Nat) (v : Value) (wr : World) (V1 : _root_.Fin 6 → Value) : Prop where
  tb : TabB bs er wr hb V1 (T ++ List.replicate k varNd) (avs ++ List.replicate k (.slice none 0 0)) cost most
  fr : HFr hb V V1 w wr
  own : wr.ownsRow w.heap.size 3 1 v k (intsV ((List.range k).map (T.length + ·)))
  vn : ∀ b, v.ownBlock = some b → ¬ HM hb V1 b
section
variable {bs : List (Nat × Nat)} {er : Int} {hb : Nat} {T : List Nd} {avs : List Value} {cost most : Int}
theorem freshB_step {w wr w1 w2 : World} {V V1 V2 : _root_.Fin 6 → Value} {k : Nat} {v v' : Value} {o : Obj} (h0 : TabB bs er w hb V T avs cost most) (h : FreshB bs er w hb V T avs cost most k v wr V1)
    (hH : HIn w1 hb V2 (addC (tabC (T ++ List.replicate k varNd) (avs ++ List.replicate k (.slice none 0 0)) (tosOf (T ++ List.replicate k varNd).length bs) (trOf bs)) 118 ByteArray.empty 0 (.slice none 0 0)) cost most er) (hf : HFr hb V1 V2 wr w1)
    (ho : w2.ownsRow w.heap.size 3 1 v' (k + 1) (intsV ((List.range k).map (T.length + ·)) ++ [.int .i64 ((T.length + k : Nat) : Int)])) (hg : (w1.alloc o).grownBy w2 v.ownBlock) (hn : ∀ b, v'.ownBlock = some b → v.ownBlock = some b ∨ w1.heap.size + 1 ≤ b) :
    FreshB bs er w hb V T avs cost most (k + 1) v' w2 V2 := by
  have hT := h.tb.add (ags := []) (as_own_nil wr) (by simp [Value.ownBlock]) hH hf
  have hvn : ∀ b, v.ownBlock = some b → ¬ HM hb V2 b := fun b q => not_HM hf (h.own.lt b q).2 (h.vn b q)
  have hs1 := hf.size
  have hsz : (w1.alloc o).heap.size = w1.heap.size + 1 := by simp
  have hs2 := hg.size
  have hold : ∀ b, b < w1.heap.size → v.ownBlock ≠ some b → w2.heap[b]? = w1.heap[b]? := fun b hb1 hb2 => by
    rw [hg.block b (by omega) (fun e => hb2 e.symm)]; exact Below.heap_alloc _ _ _ hb1
  have e1 : T ++ List.replicate k varNd ++ [⟨118, ByteArray.empty, 0, []⟩] = T ++ List.replicate (k + 1) varNd := by rw [List.replicate_succ', List.append_assoc]; rfl
  have e2 : avs ++ List.replicate k (Value.slice none 0 0) ++ [.slice none 0 0] = avs ++ List.replicate (k + 1) (.slice none 0 0) := by rw [List.replicate_succ', List.append_assoc]
  rw [e1, e2] at hT
  refine ⟨hT.keep (fun b q => hold b (hH.mlt b q) (fun e => hvn b e q)) (fun u hu b q => ?_), ?_, ?_, ?_⟩
  · rcases List.mem_append.1 hu with hu | hu
    · have h1 := h0.alt u hu b q
      have h2 := h.fr.size
      exact hold b (by omega) (fun e => by have := (h.own.lt b e).1; omega)
    · rw [List.eq_of_mem_replicate hu] at q
      cases q
  · have h01 := h.fr.trans hf
    refine ⟨hg.os.trans h01.os, hg.tape.trans h01.tape, hg.output.trans h01.output, by have := h01.size; omega, fun b hb1 hb2 => ?_, h01.mnew⟩
    have h0 := h01.size
    rw [hold b (by omega) (fun e => by have := (h.own.lt b e).1; omega)]
    exact h01.block b hb1 hb2
  · have : intsV ((List.range k).map (T.length + ·)) ++ [.int .i64 ((T.length + k : Nat) : Int)] = intsV ((List.range (k + 1)).map (T.length + ·)) := by simp [intsV, List.range_succ]
    rw [← this]; exact ho
  · intro b q e
    rcases hn b q with r | r
    · exact hvn b r e
    · have := hH.mlt b e; omega
theorem freshB_any {w : World} {V : _root_.Fin 6 → Value} (h : TabB bs er w hb V T avs cost most) (n : Nat) (hn : n ≤ 13) (hs : T.length + 13 ≤ 900000000) :
    Calls Tryz.prog 57 #[.pointer (some ⟨hb, 0, none⟩), .int .i64 n] w fun e w' => ∃ v V', e = .returned v ∧ FreshB bs er w hb V T avs cost most n v w' V' := by
  obtain ⟨i0, hi, hz0, hz1, hz2⟩ := info_parts Tryz.infoInt
  have H0 := hide h
  have hst : FreshB bs er w hb V T avs cost most 0 (.slice none 0 0) w V := ⟨by simpa using h, HFr.refl _ _ _, World.ownsRow_nil _ _ _ _, by simp [Value.ownBlock]⟩
  have HST := hide hst
  clear h hst
  go_enter Tryz.func57, Tryz.ntmps57
  go_wp2_with fail
  go_loopg [5, 6] n (fun g v i wr => ∃ k V1, k + g = n ∧ i = .int .i64 (k : Nat) ∧ FreshB bs er w hb V T avs cost most k v wr V1)
  case atStart => exact ⟨0, V, by omega, rfl, HST.out⟩
  case round =>
    obtain ⟨k, V1, hk, rfl, hF⟩ := hrel
    by_cases hlt : k < n
    · have hl2 : (tabC (T ++ List.replicate k varNd) (avs ++ List.replicate k (Value.slice none 0 0)) (tosOf (T ++ List.replicate k varNd).length bs) (trOf bs) 0).length = T.length + k := by simp [tabC]
      have HA := hide (add_any hF.tb.H (hF.tb.len (by simp; omega)) 118 ByteArray.empty 0)
      rw [hl2] at HA
      clear hl2
      go_wp2_with (first | (go_at_call 87; refine (HA.out _ _ _).mono ?_; rintro e w1 ⟨rfl, V2, hH, hf⟩) | (at_builtin; refine wpList_append_own2 rfl (.tmp 15) (.tmp 17) 65 rfl w.heap.size 3 i0 (.int .i64 0) 1 8 Tryz.underlyingInts hi hz0 hz1 hz2 rfl (by decide) _ _ _ rfl ((own_hfr hF.own hf hF.vn).alloc _) ⟨w1.heap.size, 0, none⟩ 1 1 [.int .i64 ((T.length + k : Nat) : Int)] rfl rfl ?_ ?_ ?_ ?_ ?_ ?_) | go_in)
      · exact cell_one_new _ _ _
      · intro u hu; simp at hu; subst hu; rfl
      · unfold maxLen; omega
      · omega
      · have := hF.fr.size; have := hf.size; simp; omega
      intro v' w2 ho hg hnw
      have HS := hide (freshB_step H0.out hF hH hf ho hg hnw)
      clear ho hg hnw hH hf hF
      go_wp2_with fail
      go_roundg (gk - 1)
      case measure => omega
      case rel => exact ⟨k + 1, V2, by omega, by go_num, HS.out⟩
    · have e : k = n := by omega
      subst e
      obtain ⟨ao, cap, hv⟩ := row_form hF.own
      subst hv
      go_wp2_with fail
      go_ret
      exact ⟨_, V1, rfl, hF⟩
end
mutual
def exOk (n : Nat) : Ex → Prop
  | .atom nm => nm.size ≤ 2000
  | .num v => I64 v
  | .var k => k < n
  | .cmp nm args => (args.length ≤ 4 ∧ nm.size ≤ 2000) ∧ exOkL n args
def exOkL (n : Nat) : List Ex → Prop
  | [] => True
  | x :: l => exOk n x ∧ exOkL n l
end
mutual
theorem exOk.vars {n : Nat} : ∀ {x : Ex}, exOk n x → varsIn n x
  | .atom _, _ => trivial
  | .num _, _ => trivial
  | .var _, h => h
  | .cmp _ args, h => exOkL.vars (l := args) h.2
theorem exOkL.vars {n : Nat} : ∀ {l : List Ex}, exOkL n l → varsInL n l
  | [], _ => trivial
  | _ :: _, h => ⟨exOk.vars h.1, exOkL.vars h.2⟩
end
structure NdsOk (T : List Nd) : Prop where
  f4 : Four T
  nums : Nums T
  ags : ∀ t, t < T.length → ∀ a ∈ (nd T t).ags, a < T.length
theorem NdsOk.add {T : List Nd} (h : NdsOk T) {x : Nd} (h4 : x.ags.length ≤ 4) (hn : I64 x.n ∧ x.nm.size ≤ 2000) (ha : ∀ a ∈ x.ags, a < T.length) : NdsOk (T ++ [x]) := by
  refine ⟨h.f4.add h4, h.nums.add hn, fun t ht a q => ?_⟩
  rw [List.length_append, List.length_singleton] at *
  by_cases e : t < T.length
  · rw [nd_snoc e] at q
    have := h.ags t e a q
    omega
  · have e2 : t = T.length := by omega
    rw [e2, nd_last] at q
    have := ha a q
    omega
structure MadeIs (x : Nat) (T T' : List Nd) (k : Nat) : Prop where
  pre : T <+: T'
  len : T'.length ≤ T.length + k
  lt : x < T'.length
  ok : NdsOk T'
structure MadeIsL (l : List Nat) (T T' : List Nd) (k : Nat) : Prop where
  pre : T <+: T'
  len : T'.length ≤ T.length + k
  lt : ∀ a ∈ l, a < T'.length
  ok : NdsOk T'
theorem i64_0 : I64 0 := ⟨by omega, by omega⟩
mutual
theorem madeS_is (vl : List Nat) : ∀ (x : Ex) (T : List Nd), exOk vl.length x → (∀ a ∈ vl, a < T.length) → NdsOk T → MadeIs (madeS vl x T).1 T (madeS vl x T).2 (szE x)
  | .atom n, T, hx, _, hT => by
    rw [madeS]
    exact ⟨List.prefix_append _ _, by simp [szE], by simp, hT.add (by simp) ⟨i64_0, hx⟩ (by simp)⟩
  | .num v, T, hx, _, hT => by
    rw [madeS]
    exact ⟨List.prefix_append _ _, by simp [szE], by simp, hT.add (by simp) ⟨hx, Nat.zero_le 2000⟩ (by simp)⟩
  | .var k, T, hx, hv, hT => by
    rw [madeS]
    have hk : k < vl.length := hx
    refine ⟨List.prefix_refl _, by simp, ?_, hT⟩
    rw [List.getD_eq_getElem?_getD, List.getElem?_eq_getElem hk]
    exact hv _ (List.getElem_mem hk)
  | .cmp n args, T, hx, hv, hT => by
    have h := madeL_is vl args T hx.2 hv hT
    rw [madeS]
    refine ⟨h.pre.trans (List.prefix_append _ _), ?_, by simp, h.ok.add ?_ ⟨i64_0, hx.1.2⟩ h.lt⟩
    · have := h.len
      simp [szE]; omega
    · rw [madeL_len1]; exact hx.1.1
theorem madeL_is (vl : List Nat) : ∀ (l : List Ex) (T : List Nd), exOkL vl.length l → (∀ a ∈ vl, a < T.length) → NdsOk T → MadeIsL (madeL vl l T).1 T (madeL vl l T).2 (szL l)
  | [], T, _, _, hT => by
    rw [madeL]
    exact ⟨List.prefix_refl _, by simp, by simp, hT⟩
  | x :: l, T, hx, hv, hT => by
    have h1 := madeS_is vl x T hx.1 hv hT
    have hle := h1.pre.length_le
    have h2 := madeL_is vl l (madeS vl x T).2 hx.2 (fun a ha => Nat.lt_of_lt_of_le (hv a ha) hle) h1.ok
    rw [madeL]
    refine ⟨h1.pre.trans h2.pre, ?_, fun a ha => ?_, h2.ok⟩
    · have := h1.len; have := h2.len
      simp [szL]; omega
    · rcases List.mem_cons.1 ha with rfl | ha
      · exact Nat.lt_of_lt_of_le h1.lt h2.pre.length_le
      · exact h2.lt a ha
end
theorem replicate_ok {T : List Nd} (h : NdsOk T) : ∀ k, NdsOk (T ++ List.replicate k varNd)
  | 0 => by simpa using h
  | k + 1 => by
    rw [List.replicate_succ', ← List.append_assoc]
    exact (replicate_ok h k).add (by simp [varNd]) ⟨i64_0, Nat.zero_le 2000⟩ (by simp [varNd])
theorem Sound.nds {hb : Nat} {most : Int} {w : World} {V : _root_.Fin 6 → Value} {avs : List Value} {h : Hp} (S : Sound hb most w V avs h) : NdsOk h.T := ⟨S.f4, S.nums, S.H.ags⟩
theorem Sound.tabB {hb : Nat} {most : Int} {w : World} {V : _root_.Fin 6 → Value} {avs : List Value} {h : Hp} (S : Sound hb most w V avs h) : TabB h.bs h.err w hb V h.T avs h.cost most := ⟨S.H.tab, S.H.ok⟩
theorem TabB.sound {hb : Nat} {most : Int} {w w' : World} {V V' : _root_.Fin 6 → Value} {avs avs' : List Value} {h : Hp} {T' : List Nd} (S : Sound hb most w V avs h) (hp : h.T <+: T') (ho : NdsOk T') (hs : T'.length ≤ 1000000000) (hT : TabB h.bs h.err w' hb V' T' avs' h.cost most) :
    Sound hb most w' V' avs' { h with T := T' } :=
  ⟨⟨hT.tab, hT.ok, fun x y hx => by
      show (nd T' x).k = 118
      rw [nd_pre hp (toOf_lt S.H.ok hx).1]
      exact S.H.vars x y hx, ho.ags, hs⟩, ho.f4, ho.nums, S.c0⟩
end Go.Proofs.YtodpkdajbnceoaaGreatDoor

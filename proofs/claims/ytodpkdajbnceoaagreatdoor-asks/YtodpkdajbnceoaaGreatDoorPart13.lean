import Derived.Test.YtodpkdajbnceoaaGreatDoorPart06
set_option linter.all false
set_option maxHeartbeats 1000000
set_option maxRecDepth 100000
namespace Go.Proofs.YtodpkdajbnceoaaGreatDoor
open Go.RowKit
structure Hp where
  T : List Nd
  bs : List (Nat × Nat)
  cost : Int
  err : Int
def wk : List (Nat × Nat) → Nat → Nat
  | [], x => x
  | (v, t) :: bs, x => if wk bs x = v then t else wk bs x
def toOf : List (Nat × Nat) → Nat → Option Nat
  | [], _ => none
  | (v, t) :: bs, x => if x = v then some t else toOf bs x
def nd (T : List Nd) (t : Nat) : Nd := T.getD t varNd
def BsOk (n : Nat) : List (Nat × Nat) → Prop
  | [] => True
  | (v, t) :: bs => v < n ∧ t < n ∧ v ≠ t ∧ toOf bs v = none ∧ toOf bs t = none ∧ BsOk n bs
theorem wk_none {bs : List (Nat × Nat)} {n : Nat} (h : BsOk n bs) : ∀ x, toOf bs x = none → wk bs x = x := by
  induction bs with
  | nil => intro x _; rfl
  | cons p bs ih =>
    obtain ⟨v, t⟩ := p
    intro x hx
    simp only [toOf] at hx
    split at hx
    · cases hx
    · rename_i hne
      have := ih h.2.2.2.2.2 x hx
      simp only [wk, this]
      rw [if_neg hne]
theorem wk_some {bs : List (Nat × Nat)} {n : Nat} (h : BsOk n bs) : ∀ x y, toOf bs x = some y → wk bs x = wk bs y := by
  induction bs with
  | nil => intro x y hx; cases hx
  | cons p bs ih =>
    obtain ⟨v, t⟩ := p
    obtain ⟨h1, h2, h3, h4, h5, h6⟩ := h
    intro x y hx
    simp only [toOf] at hx
    split at hx
    · rename_i he
      cases hx
      subst he
      have e1 := wk_none h6 x h4
      have e2 := wk_none h6 t h5
      simp only [wk, e1, e2, if_true]
      rw [if_neg (fun q => h3 q.symm)]
    · have := ih h6 x y hx
      simp only [wk, this]
theorem wk_end {bs : List (Nat × Nat)} {n : Nat} (h : BsOk n bs) : ∀ x, toOf bs (wk bs x) = none := by
  induction bs with
  | nil => intro x; rfl
  | cons p bs ih =>
    obtain ⟨v, t⟩ := p
    obtain ⟨h1, h2, h3, h4, h5, h6⟩ := h
    intro x
    simp only [wk]
    split
    · simp only [toOf]
      rw [if_neg (fun q => h3 q.symm)]
      exact h5
    · rename_i hne
      simp only [toOf]
      rw [if_neg hne]
      exact ih h6 x
theorem wk_lt {bs : List (Nat × Nat)} {n : Nat} (h : BsOk n bs) : ∀ x, x < n → wk bs x < n := by
  induction bs with
  | nil => intro x hx; exact hx
  | cons p bs ih =>
    obtain ⟨v, t⟩ := p
    intro x hx
    simp only [wk]
    split
    · exact h.2.1
    · exact ih h.2.2.2.2.2 x hx
def age : List (Nat × Nat) → Nat → Nat
  | [], _ => 0
  | (v, _) :: bs, x => if x = v then 1 else if toOf bs x = none then 0 else age bs x + 1
theorem age_pos : ∀ {bs : List (Nat × Nat)} {x y : Nat}, toOf bs x = some y → 0 < age bs x
  | [], _, _, h => by cases h
  | (v, t) :: bs, x, y, h => by
    simp only [toOf] at h
    simp only [age]
    split at h
    · rename_i he; rw [if_pos he]; omega
    · rename_i hne
      rw [if_neg hne, if_neg (by rw [h]; simp)]
      omega
theorem age_lt {bs : List (Nat × Nat)} {n : Nat} (h : BsOk n bs) : ∀ x y, toOf bs x = some y → age bs y < age bs x := by
  induction bs with
  | nil => intro x y hx; cases hx
  | cons p bs ih =>
    obtain ⟨v, t⟩ := p
    obtain ⟨h1, h2, h3, h4, h5, h6⟩ := h
    intro x y hx
    simp only [toOf] at hx
    split at hx
    · rename_i he
      cases hx
      subst he
      simp only [age, if_true]
      rw [if_neg (fun q => h3 q.symm), if_pos h5]
      omega
    · rename_i hne
      have hlt := ih h6 x y hx
      have hpx := age_pos hx
      simp only [age]
      rw [if_neg hne, if_neg (show ¬ toOf bs x = none by rw [hx]; simp)]
      split
      · omega
      · split
        · omega
        · omega
theorem toOf_lt {bs : List (Nat × Nat)} {n : Nat} (h : BsOk n bs) : ∀ {x y : Nat}, toOf bs x = some y → x < n ∧ y < n := by
  induction bs with
  | nil => intro x y hx; cases hx
  | cons p bs ih =>
    obtain ⟨v, t⟩ := p
    intro x y hx
    simp only [toOf] at hx
    split at hx
    · rename_i he; cases hx; exact ⟨by rw [he]; exact h.1, h.2.1⟩
    · exact ih h.2.2.2.2.2 hx
theorem BsOk.mono {n m : Nat} (hn : n ≤ m) : ∀ {bs : List (Nat × Nat)}, BsOk n bs → BsOk m bs
  | [], _ => trivial
  | (_, _) :: _, h => ⟨Nat.lt_of_lt_of_le h.1 hn, Nat.lt_of_lt_of_le h.2.1 hn, h.2.2.1, h.2.2.2.1, h.2.2.2.2.1, BsOk.mono hn h.2.2.2.2.2⟩
def tosOf (n : Nat) (bs : List (Nat × Nat)) : List Int := (List.range n).map fun i => match toOf bs i with | some t => (t : Int) | none => -1
def trOf (bs : List (Nat × Nat)) : List Int := (bs.map fun p => (p.1 : Int)).reverse
theorem tosOf_get {n : Nat} {bs : List (Nat × Nat)} {i : Nat} (h : i < n) : (tosOf n bs)[i]? = some (match toOf bs i with | some t => (t : Int) | none => -1) := by
  simp [tosOf, h]
def BsVar (T : List Nd) (bs : List (Nat × Nat)) : Prop := ∀ x y, toOf bs x = some y → (nd T x).k = 118
structure HpIn (w : World) (hb : Nat) (V : _root_.Fin 6 → Value) (avs : List Value) (most : Int) (h : Hp) : Prop where
  tab : Tab w hb V h.T avs (tosOf h.T.length h.bs) (trOf h.bs) h.cost most h.err
  ok : BsOk h.T.length h.bs
  vars : BsVar h.T h.bs
  ags : ∀ t, t < h.T.length → ∀ a ∈ (nd h.T t).ags, a < h.T.length
  small : h.T.length ≤ 1000000000
theorem spent_x {w : World} {hb : Nat} {V : _root_.Fin 6 → Value} {C : _root_.Fin 6 → List Value} {cost most err : Int} (h : HIn w hb V C cost most err) :
    Calls Tryz.prog 88 #[.pointer (some ⟨hb, 0, none⟩)] w fun e w' => e = .returned (.bool (decide (most < cost) || !(err == 0))) ∧ ∃ n, w' = w.drewN n := by
  have c6 : w.cell? ⟨hb, 6, none⟩ = some (.int .i64 cost) := h.c 6
  have c7 : w.cell? ⟨hb, 7, none⟩ = some (.int .i64 most) := h.c 7
  have c8 : w.cell? ⟨hb, 8, none⟩ = some (.int .i64 err) := h.c 8
  have hz := h.lt_size
  cases hd : decide (most < cost) with
  | true =>
    have hd' : most < cost := by simpa using hd
    go_enter Tryz.func88, Tryz.ntmps88
    go_wp2_with fail
    go_quiet (fail)
    go_wp2_with fail
    go_ret
    exact ⟨rfl, _, rfl⟩
  | false =>
    go_enter Tryz.func88, Tryz.ntmps88
    go_wp2_with fail
    go_quiet (fail)
    go_wp2_with fail
    go_ret
    exact ⟨rfl, _, rfl⟩
theorem hp_lens {w : World} {hb : Nat} {V : _root_.Fin 6 → Value} {avs : List Value} {most : Int} {h : Hp} (H : HpIn w hb V avs most h) : (tabC h.T avs (tosOf h.T.length h.bs) (trOf h.bs) 0).length = h.T.length ∧ (tabC h.T avs (tosOf h.T.length h.bs) (trOf h.bs) 4).length = h.T.length := by
  constructor <;> simp [tabC, tosOf]
theorem hp_cells {w : World} {hb : Nat} {V : _root_.Fin 6 → Value} {avs : List Value} {most : Int} {h : Hp} (H : HpIn w hb V avs most h) (t : Nat) (ht : t < h.T.length) :
    ∃ g0 cap0 g4 cap4, w.cell? ⟨hb, 0, none⟩ = some (.slice (some ⟨g0, 0, none⟩) h.T.length cap0) ∧ w.cell? ⟨hb, 4, none⟩ = some (.slice (some ⟨g4, 0, none⟩) h.T.length cap4) ∧ h.T.length ≤ cap0 ∧ cap0 ≤ maxLen ∧ h.T.length ≤ cap4 ∧ cap4 ≤ maxLen ∧ g0 < w.heap.size ∧ g4 < w.heap.size ∧
      w.cell? ⟨g0, t, none⟩ = some (.int .u8 (nd h.T t).k) ∧ w.cell? ⟨g4, t, none⟩ = some (.int .i64 (match toOf h.bs t with | some u => (u : Int) | none => -1)) := by
  have c0 : w.cell? ⟨hb, 0, none⟩ = some (V 0) := H.tab.H.c 0
  have c4 : w.cell? ⟨hb, 4, none⟩ = some (V 4) := H.tab.H.c 4
  obtain ⟨x0, x4⟩ := hp_lens H
  have e : nd h.T t = h.T[t] := by simp [nd, ht]
  obtain ⟨g0, cap0, e0, a0, b0, l0, j0, k0⟩ := own_cell (j := t) (u := .int .u8 (nd h.T t).k) (H.tab.H.own 0) (by rw [e]; simp [tabC, ht])
  obtain ⟨g4, cap4, e4, a4, b4, l4, j4, k4⟩ := own_cell (j := t) (u := .int .i64 (match toOf h.bs t with | some u => (u : Int) | none => -1)) (H.tab.H.own 4) (by simp only [tabC, List.getElem?_map, tosOf_get ht]; rfl)
  rw [x0] at e0 a0
  rw [x4] at e4 a4
  exact ⟨g0, cap0, g4, cap4, by rw [c0, e0], by rw [c4, e4], a0, b0, a4, b4, l0, l4, k0, k4⟩
theorem walk_x {w : World} {hb : Nat} {V : _root_.Fin 6 → Value} {avs : List Value} {most : Int} {h : Hp} (H : HpIn w hb V avs most h) (t : Nat) (ht : t < h.T.length) :
    Calls Tryz.prog 98 #[.pointer (some ⟨hb, 0, none⟩), .int .i64 t] w fun e w' => e = .returned (.int .i64 (wk h.bs t)) ∧ w' = w := by
  have HH := hide H
  have hz := H.tab.H.lt_size
  have hsm := H.small
  obtain ⟨r, hr⟩ : ∃ r, wk h.bs t = r := ⟨_, rfl⟩
  rw [hr]
  have HR := hide hr
  clear hr H
  go_enter Tryz.func98, Tryz.ntmps98
  go_wp2_with fail
  go_loopg [1] (age h.bs t + 1) (fun g i wr => w = wr ∧ ∃ x : Nat, i = .int .i64 x ∧ x < h.T.length ∧ wk h.bs x = r ∧ age h.bs x < g)
  case atStart => exact ⟨rfl, t, rfl, ht, HR.out, by omega⟩
  case round =>
    obtain ⟨rfl, x, rfl, hx, hwk, hag⟩ := hrel
    have HWK := hide hwk
    clear hwk
    obtain ⟨g0, cap0, g4, cap4, c0, c4, a0, b0, a4, b4, l0, l4, k0, k4⟩ := hp_cells HH.out x hx
    obtain ⟨K, hK⟩ : ∃ K, K = (nd h.T x).k := ⟨_, rfl⟩
    rw [← hK] at k0
    cases hto : toOf h.bs x with
    | some y =>
      rw [hto] at k4
      have hk : K = 118 := by rw [hK]; exact HH.out.vars x y hto
      have hk' : (K == 118) = true := by simpa using hk
      have HWY : Hid (wk h.bs y = r) := by rw [Hid, ← wk_some HH.out.ok x y hto]; exact HWK.out
      have hyl := (toOf_lt HH.out.ok hto).2
      have hal := age_lt HH.out.ok x y hto
      have hy0 : (0 : Int) ≤ (y : Int) := by omega
      clear hk hK hto
      go_wp2_with fail
      go_roundg (age h.bs x)
      case measure => exact hag
      case rel => exact ⟨rfl, y, rfl, hyl, HWY.out, hal⟩
    | none =>
      rw [hto] at k4
      have HX : Hid (x = r) := by rw [Hid, ← HWK.out, wk_none HH.out.ok x hto]
      clear hK hto
      cases hv : (K == 118) with
      | true =>
        go_wp2_with fail
        go_ret
        exact ⟨by rw [← HX.out]; rfl, rfl⟩
      | false =>
        go_wp2_with fail
        go_ret
        exact ⟨by rw [← HX.out]; rfl, rfl⟩
theorem HIn.poke {w : World} {hb : Nat} {V : _root_.Fin 6 → Value} {C : _root_.Fin 6 → List Value} {cost most err : Int} (h : HIn w hb V C cost most err) (i : _root_.Fin 6) {g cap n j : Nat} {u : Value} (hV : V i = .slice (some ⟨g, 0, none⟩) n cap) (hj : j < (C i).length) :
    HIn (w.setCell ⟨g, j, none⟩ u) hb V (upd C i ((C i).set j u)) cost most err ∧ HFr hb V V w (w.setCell ⟨g, j, none⟩ u) := by
  have hgb : (V i).ownBlock = some g := by rw [hV]; rfl
  have hne : ∀ b, b ≠ g → (w.setCell ⟨g, j, none⟩ u).heap[b]? = w.heap[b]? := fun b hb1 => Below.heap_setCell _ _ _ _ hb1
  have hgh : hb ≠ g := fun e => h.nb i (by rw [hgb, e])
  refine ⟨⟨by rw [hne hb hgh]; exact h.cells, fun k => ?_, h.dist, h.nb⟩, rfl, rfl, rfl, by simp [World.setCell], fun b _ hn => hne b (fun e => hn (.inr ⟨i, by rw [hgb, e]⟩)), fun _ e => .inl e⟩
  by_cases e : k = i
  · subst e
    rw [upd_same]
    have ho := h.own k
    rw [hV] at ho ⊢
    refine ⟨by simpa using ho.1, ?_⟩
    rcases ho.2 with ⟨hq, _⟩ | ⟨g', cap', cur, hq, r1, r2, r3, r4, r5, r6⟩
    · cases hq
    · cases hq
      refine .inr ⟨g, cap, cur.setIfInBounds j u, by simp, r1, by rw [heap_setCell_same r2], by simpa using r3, r4, by simpa using r5, ?_⟩
      rw [Array.toList_setIfInBounds]
      simp only [Nat.mul_one, List.length_set]
      rw [List.take_set]
      congr 1
      simpa using r6
  · rw [upd_other C _ e]
    exact own_keep (h.own k) (fun b q => hne b (fun r => by
      rcases h.dist k i e with s | s
      · rw [s] at q; cases q
      · exact s (by rw [q, hgb, r])))
theorem Tab.step {w w' : World} {hb : Nat} {V V' : _root_.Fin 6 → Value} {T : List Nd} {avs : List Value} {tos tr tos' tr' : List Int} {cost most err cost' err' : Int} (h : Tab w hb V T avs tos tr cost most err)
    (hH : HIn w' hb V' (tabC T avs tos' tr') cost' most err') (hl : tos'.length = T.length) (hf : HFr hb V V' w w') : Tab w' hb V' T avs tos' tr' cost' most err' :=
  ⟨hH, h.la, hl, fun i hi hi' => ⟨own_hfr (h.args i hi hi').1 hf (h.args i hi hi').2, fun b q => not_HM hf ((h.args i hi hi').1.lt b q).2 ((h.args i hi hi').2 b q)⟩⟩
theorem tosOf_bind {n v t : Nat} {bs : List (Nat × Nat)} (hv : v < n) : tosOf n ((v, t) :: bs) = (tosOf n bs).set v (t : Int) := by
  apply List.ext_getElem?
  intro i
  by_cases hi : i < n
  · rw [tosOf_get hi, List.getElem?_set]
    by_cases e : v = i
    · subst e
      simp [toOf, tosOf, hv]
    · rw [if_neg e, tosOf_get hi]
      simp only [toOf]
      rw [if_neg (fun q => e q.symm)]
  · have e1 : (tosOf n ((v, t) :: bs))[i]? = none := by simp [tosOf]; omega
    rw [e1, List.getElem?_eq_none (by simp [tosOf]; omega)]
theorem trOf_bind (v t : Nat) (bs : List (Nat × Nat)) : trOf ((v, t) :: bs) = trOf bs ++ [(v : Int)] := by simp [trOf]
def Hp.bind (h : Hp) (v t : Nat) : Hp := { h with bs := (v, t) :: h.bs }
theorem bs_len {n : Nat} : ∀ {bs : List (Nat × Nat)}, BsOk n bs → (bs.map (·.1)).Nodup ∧ (∀ x ∈ bs.map (·.1), x < n ∧ toOf bs x ≠ none)
  | [], _ => ⟨List.nodup_nil, by simp⟩
  | (v, t) :: bs, h => by
    obtain ⟨h1, h2, h3, h4, h5, h6⟩ := h
    obtain ⟨n1, n2⟩ := bs_len h6
    refine ⟨List.nodup_cons.2 ⟨fun hm => (n2 v hm).2 h4, n1⟩, fun x hx => ?_⟩
    rcases List.mem_cons.1 hx with rfl | hx
    · exact ⟨h1, by simp [toOf]⟩
    · obtain ⟨q1, q2⟩ := n2 x hx
      refine ⟨q1, ?_⟩
      simp only [toOf]
      split
      · simp
      · exact q2
theorem bs_small {n : Nat} {bs : List (Nat × Nat)} (h : BsOk n bs) : bs.length ≤ n := by
  obtain ⟨n1, n2⟩ := bs_len h
  have : (bs.map (·.1)).length ≤ (List.range n).length := by
    refine List.Nodup.length_le_of_subset n1 (fun x hx => ?_)
    rw [List.mem_range]
    exact (n2 x hx).1
  simpa using this
theorem bind_x {w : World} {hb : Nat} {V : _root_.Fin 6 → Value} {avs : List Value} {most : Int} {h : Hp} (H : HpIn w hb V avs most h) (v t : Nat) (hv : v < h.T.length) (ht : t < h.T.length) (hne : v ≠ t) (h1 : toOf h.bs v = none) (h2 : toOf h.bs t = none) (hk : (nd h.T v).k = 118) :
    Calls Tryz.prog 223 #[.pointer (some ⟨hb, 0, none⟩), .int .i64 v, .int .i64 t] w fun e w' => e = .returned (.tuple #[]) ∧ ∃ V', HpIn w' hb V' avs most (h.bind v t) ∧ HFr hb V V' w w' ∧ V' 3 = V 3 := by
  obtain ⟨i4, hi4, z40, z41, z42⟩ := info_parts Tryz.infoInt
  have hsm := H.small
  have hz := H.tab.H.lt_size
  have c5 : w.cell? ⟨hb, 5, none⟩ = some (V 5) := H.tab.H.c 5
  obtain ⟨x0, x4⟩ := hp_lens H
  obtain ⟨g4, cap4, e4, a4, b4, l4, j4, k4⟩ := own_cell (j := v) (u := .int .i64 (match toOf h.bs v with | some u => (u : Int) | none => -1)) (H.tab.H.own 4) (by simp only [tabC, List.getElem?_map, tosOf_get hv]; rfl)
  rw [x4] at e4 a4
  have c4 : w.cell? ⟨hb, 4, none⟩ = some (.slice (some ⟨g4, 0, none⟩) h.T.length cap4) := by rw [← e4]; exact H.tab.H.c 4
  have f4 : w.frozen? ⟨g4, v, none⟩ = false := by
    have ho := H.tab.H.own 4
    rw [e4, x4] at ho
    rcases ho.2 with ⟨hq, _⟩ | ⟨g', cap', cur, hq, r1, r2, _⟩
    · cases hq
    · cases hq; simp [World.frozen?, r2]
  obtain ⟨P1, F1⟩ := H.tab.H.poke (u := .int .i64 t) (j := v) 4 e4 (by rw [x4]; exact hv)
  have c5' : (w.setCell ⟨g4, v, none⟩ (.int .i64 t)).cell? ⟨hb, 5, none⟩ = some (V 5) := P1.c 5
  have hbl := bs_small H.ok
  have o5 : (w.setCell ⟨g4, v, none⟩ (.int .i64 t)).ownsRow 0 3 1 (V 5) (trOf h.bs).length ((trOf h.bs).map fun x => .int .i64 x) := by
    have := P1.own 5
    rw [upd_other _ _ (by decide)] at this
    have e : tabC h.T avs (tosOf h.T.length h.bs) (trOf h.bs) 5 = (trOf h.bs).map fun x => .int .i64 x := rfl
    rw [e, List.length_map] at this
    exact this
  have hl5 : (trOf h.bs).length ≤ 1000000000 := by simp [trOf]; omega
  have hsz : (w.setCell ⟨g4, v, none⟩ (.int .i64 t)).heap.size = w.heap.size := by simp [World.setCell]
  go_enter Tryz.func223, Tryz.ntmps223
  go_wp2_with (first | (at_builtin; refine wpList_append_own2 rfl _ _ 65 rfl 0 3 i4 (.int .i64 0) 1 8 Tryz.underlyingInts hi4 z40 z41 z42 rfl (by decide) (V 5) _ _ rfl (o5.alloc _) ⟨w.heap.size, 0, none⟩ 1 1 [.int .i64 v] rfl rfl ?c1 ?_ ?_ ?_ ?_ ?_) | go_in)
  case c1 => rw [← hsz]; exact cell_one_new _ _ _
  · intro u hu; simp at hu; subst hu; rfl
  · unfold maxLen; omega
  · omega
  · exact Nat.zero_le _
  intro v' w' ho hg hn
  obtain ⟨zc, zf⟩ := grown_hb P1 5 hg
  have zz : w'.cell? ⟨hb, 5, none⟩ = some (V 5) := zc 5
  have G := P1.grow (u := .int .i64 v) 5 hg (by simpa [hsz] using hn) (by
    have e : upd (tabC h.T avs (tosOf h.T.length h.bs) (trOf h.bs)) 4 ((tabC h.T avs (tosOf h.T.length h.bs) (trOf h.bs) 4).set v (.int .i64 t)) 5 = (trOf h.bs).map fun x => .int .i64 x := rfl
    rw [e, List.length_map]
    exact ho)
  obtain ⟨ao', cap', rfl⟩ := row_form ho
  have hC : upd (upd (tabC h.T avs (tosOf h.T.length h.bs) (trOf h.bs)) 4 ((tabC h.T avs (tosOf h.T.length h.bs) (trOf h.bs) 4).set v (.int .i64 t))) 5 (upd (tabC h.T avs (tosOf h.T.length h.bs) (trOf h.bs)) 4 ((tabC h.T avs (tosOf h.T.length h.bs) (trOf h.bs) 4).set v (.int .i64 t)) 5 ++ [.int .i64 v]) = tabC h.T avs (tosOf h.T.length ((v, t) :: h.bs)) (trOf ((v, t) :: h.bs)) := by
    funext j
    match j with
    | 0 => rfl
    | 1 => rfl
    | 2 => rfl
    | 3 => rfl
    | 4 => show ((tosOf h.T.length h.bs).map _).set v _ = (tosOf h.T.length ((v, t) :: h.bs)).map _; rw [tosOf_bind hv, List.map_set]
    | 5 => show (trOf h.bs).map _ ++ _ = (trOf ((v, t) :: h.bs)).map _; rw [trOf_bind]; simp
  rw [hC] at G
  have HG := hide G
  have HP : Hid (∀ w2 V2, HIn w2 hb V2 (tabC h.T avs (tosOf h.T.length ((v, t) :: h.bs)) (trOf ((v, t) :: h.bs))) h.cost most h.err → HFr hb V V2 w w2 → HpIn w2 hb V2 avs most (h.bind v t)) := fun w2 V2 g1 g2 =>
    ⟨H.tab.step g1 (by simp [tosOf]; rfl) g2, ⟨hv, ht, hne, h1, h2, H.ok⟩, fun x y hx => by
      have hx' : toOf ((v, t) :: h.bs) x = some y := hx
      simp only [toOf] at hx'
      split at hx'
      · rename_i he; rw [he]; exact hk
      · exact H.vars x y hx', H.ags, H.small⟩
  clear zc hn hg ho G hC
  go_wp2_with fail
  go_end0
  exact ⟨rfl, _, HP.out _ _ HG.out.1 (F1.trans HG.out.2), F1.trans HG.out.2, rfl⟩
def Hp.undo (h : Hp) (mark : Nat) : Hp := { h with bs := h.bs.drop (h.bs.length - mark) }
theorem trOf_len (bs : List (Nat × Nat)) : (trOf bs).length = bs.length := by simp [trOf]
theorem trOf_last (v t : Nat) (bs : List (Nat × Nat)) : (trOf ((v, t) :: bs))[bs.length]? = some (v : Int) := by
  rw [trOf_bind, List.getElem?_append_right (by rw [trOf_len]; exact Nat.le_refl _), trOf_len]
  simp
theorem tosOf_unbind {n v t : Nat} {bs : List (Nat × Nat)} (hv : v < n) (h : toOf bs v = none) : (tosOf n ((v, t) :: bs)).set v (-1) = tosOf n bs := by
  rw [tosOf_bind hv, List.set_set]
  apply List.ext_getElem?
  intro i
  rw [List.getElem?_set]
  split
  · rename_i e
    subst e
    simp [tosOf, hv, h]
  · rfl
theorem HIn.cut {w : World} {hb : Nat} {V : _root_.Fin 6 → Value} {C : _root_.Fin 6 → List Value} {cost most err : Int} (h : HIn w hb V C cost most err) (i : _root_.Fin 6) {ao : Option Addr} {n cap k : Nat} (hV : V i = .slice ao n cap) (hk : k ≤ (C i).length) (hn : 0 < n) :
    HIn (w.setCell ⟨hb, i.val, none⟩ (.slice ao k cap)) hb (upd V i (.slice ao k cap)) (upd C i ((C i).take k)) cost most err ∧ HFr hb V (upd V i (.slice ao k cap)) w (w.setCell ⟨hb, i.val, none⟩ (.slice ao k cap)) := by
  have hne : ∀ b, b ≠ hb → (w.setCell ⟨hb, i.val, none⟩ (.slice ao k cap)).heap[b]? = w.heap[b]? := fun b hb1 => Below.heap_setCell _ _ _ _ hb1
  have hob : (Value.slice ao k cap).ownBlock = (V i).ownBlock := by rw [hV]; cases ao <;> rfl
  have hblk : ∀ j, (upd V i (.slice ao k cap) j).ownBlock = (V j).ownBlock := fun j => by
    by_cases e : j = i
    · subst e; rw [upd_same]; exact hob
    · rw [upd_other V _ e]
  have hM : ∀ b, HM hb (upd V i (.slice ao k cap)) b → HM hb V b := fun b hb1 => by
    rcases hb1 with q | ⟨j, q⟩
    · exact .inl q
    · rw [hblk j] at q; exact .inr ⟨j, q⟩
  refine ⟨⟨by rw [heap_setCell_same h.cells, heapCells_set], fun j => ?_, fun j l hjl => by rw [hblk, hblk]; exact h.dist j l hjl, fun j => by rw [hblk]; exact h.nb j⟩, rfl, rfl, rfl, by simp [World.setCell], fun b _ hn => hne b (fun e => hn (.inl e)), fun b e => .inl (hM b e)⟩
  by_cases e : j = i
  · subst e
    rw [upd_same, upd_same]
    have ho := own_keep (w' := w.setCell ⟨hb, j.val, none⟩ (.slice ao k cap)) (h.own j) (fun b q => hne b (fun r => h.nb j (by rw [q, r])))
    rw [hV] at ho
    have hl : ((C j).take k).length = k := by simp; omega
    rw [hl]
    refine ⟨by simp; omega, ?_⟩
    rcases ho.2 with ⟨hq, h0⟩ | ⟨g', cap', cur, hq, r1, r2, r3, r4, r5, r6⟩
    · cases hq; omega
    · cases hq
      refine .inr ⟨g', _, cur, rfl, r1, r2, by omega, r4, r5, ?_⟩
      rw [← r6]
      simp only [Nat.mul_one, List.take_take]
      congr 1
      omega
  · rw [upd_other V _ e, upd_other C _ e]
    exact own_keep (h.own j) (fun b q => hne b (fun r => h.nb j (by rw [q, r])))
theorem drop_undo {h : Hp} {mark : Nat} {v t : Nat} {bs : List (Nat × Nat)} (e : h.bs = (v, t) :: bs) (hm : mark ≤ bs.length) : ({ h with bs := bs } : Hp).undo mark = h.undo mark := by
  unfold Hp.undo
  rw [e]
  simp only [List.length_cons]
  rw [show bs.length + 1 - mark = (bs.length - mark) + 1 by omega, List.drop_succ_cons]
theorem HpIn.less {w w2 : World} {hb : Nat} {V V2 : _root_.Fin 6 → Value} {avs : List Value} {most : Int} {h : Hp} (H : HpIn w hb V avs most h) {v t : Nat} {bs : List (Nat × Nat)} (e : h.bs = (v, t) :: bs)
    (g1 : HIn w2 hb V2 (tabC h.T avs (tosOf h.T.length bs) (trOf bs)) h.cost most h.err) (g2 : HFr hb V V2 w w2) : HpIn w2 hb V2 avs most { h with bs := bs } := by
  have ho := H.ok
  rw [e] at ho
  obtain ⟨q1, q2, q3, q4, q5, q6⟩ := ho
  refine ⟨H.tab.step g1 (by simp [tosOf]) g2, q6, fun x y hx => H.vars x y ?_, H.ags, H.small⟩
  rw [e]
  have hx' : toOf bs x = some y := hx
  simp only [toOf]
  rw [if_neg (fun q => by rw [q, q4] at hx'; cases hx')]
  exact hx'
theorem undo_x {w : World} {hb : Nat} {V : _root_.Fin 6 → Value} {avs : List Value} {most : Int} {h : Hp} (H : HpIn w hb V avs most h) (mark : Nat) (hm : mark ≤ h.bs.length) :
    Calls Tryz.prog 90 #[.pointer (some ⟨hb, 0, none⟩), .int .i64 mark] w fun e w' => e = .returned (.tuple #[]) ∧ ∃ V', HpIn w' hb V' avs most (h.undo mark) ∧ HFr hb V V' w w' := by
  have hsm := H.small
  have hbl := bs_small H.ok
  have HH := hide H
  clear H
  go_enter Tryz.func90, Tryz.ntmps90
  go_wp2_with fail
  go_loopg [4] (h.bs.length + 1) (fun g _ wr => ∃ V1 h1, HpIn wr hb V1 avs most h1 ∧ HFr hb V V1 w wr ∧ mark ≤ h1.bs.length ∧ h1.bs.length ≤ h.bs.length ∧ h1.undo mark = h.undo mark ∧ h1.bs.length < g)
  case atStart => exact ⟨V, h, HH.out, HFr.refl _ _ _, hm, Nat.le_refl _, rfl, by omega⟩
  case round =>
    obtain ⟨V1, h1, H1, F1, hm1, hl1, hu1, hg1⟩ := hrel
    have HU := hide hu1
    clear hu1
    have hz := H1.tab.H.lt_size
    have c5 : wr.cell? ⟨hb, 5, none⟩ = some (V1 5) := H1.tab.H.c 5
    have hlen5 : (tabC h1.T avs (tosOf h1.T.length h1.bs) (trOf h1.bs) 5).length = h1.bs.length := by simp [tabC, trOf]
    obtain ⟨ao5, cap5, e5⟩ := row_form (H1.tab.H.own 5)
    rw [hlen5] at e5
    rw [e5] at c5
    by_cases hlt : mark < h1.bs.length
    · obtain ⟨v, t, bs, hbs⟩ : ∃ v t bs, h1.bs = (v, t) :: bs := by
        cases hx : h1.bs with
        | nil => rw [hx] at hlt; simp at hlt
        | cons p bs => exact ⟨p.1, p.2, bs, rfl⟩
      have ho := H1.ok
      rw [hbs] at ho
      obtain ⟨q1, q2, q3, q4, q5, q6⟩ := ho
      have hbl1 : h1.bs.length = bs.length + 1 := by rw [hbs]; rfl
      obtain ⟨g5, cap5', e5', a5, b5, l5, j5, k5⟩ := own_cell (j := bs.length) (u := .int .i64 v) (H1.tab.H.own 5) (by
        show ((trOf h1.bs).map fun x => Value.int .i64 x)[bs.length]? = _
        rw [hbs, List.getElem?_map, trOf_last]; rfl)
      rw [hlen5, e5] at e5'
      cases e5'
      obtain ⟨x0, x4⟩ := hp_lens H1
      obtain ⟨g4, cap4, e4, a4, b4, l4, j4, k4⟩ := own_cell (j := v) (u := .int .i64 (match toOf h1.bs v with | some u => (u : Int) | none => -1)) (H1.tab.H.own 4) (by simp only [tabC, List.getElem?_map, tosOf_get q1]; rfl)
      rw [x4] at e4 a4
      have c4 : wr.cell? ⟨hb, 4, none⟩ = some (.slice (some ⟨g4, 0, none⟩) h1.T.length cap4) := by rw [← e4]; exact H1.tab.H.c 4
      have f4 : wr.frozen? ⟨g4, v, none⟩ = false := by
        have ho := H1.tab.H.own 4
        rw [e4, x4] at ho
        rcases ho.2 with ⟨hq, _⟩ | ⟨g', cap', cur, hq, r1, r2, _⟩
        · cases hq
        · cases hq; simp [World.frozen?, r2]
      have hv0 : (0 : Int) ≤ (v : Int) := by omega
      have hvT : (v : Int) < (h1.T.length : Int) := by omega
      obtain ⟨P1, FP⟩ := H1.tab.H.poke (u := .int .i64 (-1)) (j := v) 4 e4 (by rw [x4]; exact q1)
      have P1d := P1.below ((Below.refl _ _).drew)
      have e5d : V1 5 = .slice (some ⟨g5, 0, none⟩) (bs.length + 1) cap5 := by rw [← hbl1]; exact e5
      have c5d : (wr.setCell ⟨g4, v, none⟩ (.int .i64 (-1))).drew.cell? ⟨hb, 5, none⟩ = some (.slice (some ⟨g5, 0, none⟩) (bs.length + 1) cap5) := by rw [← e5d]; exact P1d.c 5
      have f5d : (wr.setCell ⟨g4, v, none⟩ (.int .i64 (-1))).drew.frozen? ⟨hb, 5, none⟩ = false := P1d.fz 5
      have hC5 : upd (tabC h1.T avs (tosOf h1.T.length h1.bs) (trOf h1.bs)) 4 ((tabC h1.T avs (tosOf h1.T.length h1.bs) (trOf h1.bs) 4).set v (.int .i64 (-1))) 5 = (trOf h1.bs).map fun x => .int .i64 x := rfl
      obtain ⟨P2, FC⟩ := P1d.cut 5 (k := bs.length) e5d (by rw [hC5]; simp [trOf_len]; omega) (by omega)
      have hC : upd (upd (tabC h1.T avs (tosOf h1.T.length h1.bs) (trOf h1.bs)) 4 ((tabC h1.T avs (tosOf h1.T.length h1.bs) (trOf h1.bs) 4).set v (.int .i64 (-1)))) 5 ((upd (tabC h1.T avs (tosOf h1.T.length h1.bs) (trOf h1.bs)) 4 ((tabC h1.T avs (tosOf h1.T.length h1.bs) (trOf h1.bs) 4).set v (.int .i64 (-1))) 5).take bs.length) = tabC h1.T avs (tosOf h1.T.length bs) (trOf bs) := by
        funext j
        match j with
        | 0 => rfl
        | 1 => rfl
        | 2 => rfl
        | 3 => rfl
        | 4 =>
          show ((tosOf h1.T.length h1.bs).map _).set v _ = (tosOf h1.T.length bs).map _
          rw [← tosOf_unbind (t := t) q1 q4, hbs, List.map_set]
        | 5 =>
          show ((trOf h1.bs).map _).take bs.length = (trOf bs).map _
          rw [hbs, trOf_bind, List.map_append, List.take_append_of_le_length (by simp [trOf_len]), List.take_of_length_le (by simp [trOf_len])]
      rw [hC] at P2
      have HN := hide (H1.less hbs P2 ((FP.trans (HFr.of_below ((Below.refl _ _).drew))).trans FC))
      have HF := hide (F1.trans ((FP.trans (HFr.of_below ((Below.refl _ _).drew))).trans FC))
      have HU2 : Hid (({ h1 with bs := bs } : Hp).undo mark = h.undo mark) := (drop_undo hbs (by omega)).trans HU.out
      have hmb : mark ≤ bs.length := by omega
      have hlb : bs.length ≤ h.bs.length := by omega
      clear hC hC5 P2 FC P1 FP P1d e5d
      go_wp2_with fail
      go_region
      all_goals
        go_wp2_with fail
        go_roundg (bs.length + 1)
        case measure => omega
        case rel => exact ⟨_, _, HN.out, HF.out, hmb, hlb, HU2.out, by show bs.length < bs.length + 1; omega⟩
    · go_wp2_with fail
      go_end0
      have hq : h1.bs.length = mark := by omega
      have hu : h1.undo mark = h1 := by unfold Hp.undo; rw [hq, Nat.sub_self]; rfl
      exact ⟨rfl, V1, by rw [← HU.out, hu]; exact H1, F1⟩
def anyS (g : Nat → Int → Bool × Int) : List Nat → Int → Bool × Int
  | [], c => (false, c)
  | a :: l, c => if (g a c).1 then (true, (g a c).2) else anyS g l (g a c).2
def spentB (cost most err : Int) : Bool := decide (most < cost) || !(err == 0)
def inS (T : List Nd) (bs : List (Nat × Nat)) (err most : Int) (v : Nat) : Nat → Nat → Int → Bool × Int
  | 0, _, c => (false, c + 1)
  | f + 1, t, c =>
    if spentB (c + 1) most err then (false, c + 1)
    else if wk bs t = v then (true, c + 1)
    else if (nd T (wk bs t)).k = 99 then anyS (inS T bs err most v f) (nd T (wk bs t)).ags (c + 1)
    else (false, c + 1)
def Four (T : List Nd) : Prop := ∀ t, t < T.length → (nd T t).ags.length ≤ 4
theorem anyS_cost {g : Nat → Int → Bool × Int} {M : Int} (hg : ∀ a c, c + 1 ≤ (g a c).2 ∧ (g a c).2 ≤ max (c + 1) M) : ∀ (l : List Nat) (c : Int), c ≤ (anyS g l c).2 ∧ (anyS g l c).2 ≤ max c M + l.length
  | [], c => by simp only [anyS, List.length_nil]; omega
  | a :: l, c => by
    have h1 := hg a c
    have h2 := anyS_cost hg l (g a c).2
    simp only [anyS, List.length_cons]
    split
    · simp only; omega
    · omega
theorem inS_cost {T : List Nd} {bs : List (Nat × Nat)} {err most : Int} {v : Nat} (h4 : ∀ t, (nd T t).ags.length ≤ 4) : ∀ (f t : Nat) (c : Int), c + 1 ≤ (inS T bs err most v f t c).2 ∧ (inS T bs err most v f t c).2 ≤ max (c + 1) (most + 1 + 4 * f)
  | 0, t, c => by simp only [inS]; omega
  | f + 1, t, c => by
    simp only [inS]
    split
    · simp only; omega
    · rename_i hs
      have hc : c + 1 ≤ most := by
        simp only [spentB, Bool.or_eq_true, decide_eq_true_eq, not_or] at hs
        omega
      split
      · simp only; omega
      · split
        · have h := anyS_cost (g := inS T bs err most v f) (M := most + 1 + 4 * f) (fun a c => inS_cost h4 f a c) (nd T (wk bs t)).ags (c + 1)
          have hl := h4 (wk bs t)
          omega
        · simp only; omega
theorem Four.all {T : List Nd} (h : Four T) (t : Nat) : (nd T t).ags.length ≤ 4 := by
  by_cases ht : t < T.length
  · exact h t ht
  · have : nd T t = varNd := by simp [nd, List.getD, List.getElem?_eq_none (Nat.le_of_not_lt ht)]
    rw [this]; simp [varNd]
theorem HpIn.count {w : World} {hb : Nat} {V : _root_.Fin 6 → Value} {avs : List Value} {most : Int} {h : Hp} (H : HpIn w hb V avs most h) (c : Int) :
    HpIn (w.setCell ⟨hb, 6, none⟩ (.int .i64 c)) hb V avs most { h with cost := c } ∧ HFr hb V V w (w.setCell ⟨hb, 6, none⟩ (.int .i64 c)) := by
  obtain ⟨a, b⟩ := H.tab.H.setNum 6 (.int .i64 c) c most h.err rfl
  exact ⟨⟨H.tab.step a (by simp [tosOf]) b, H.ok, H.vars, H.ags, H.small⟩, b⟩
theorem HpIn.below {w w' : World} {hb : Nat} {V : _root_.Fin 6 → Value} {avs : List Value} {most : Int} {h : Hp} (H : HpIn w hb V avs most h) (hB : Below w.heap.size w w') : HpIn w' hb V avs most h :=
  ⟨H.tab.step (H.tab.H.below hB) (by simp [tosOf]) (HFr.of_below hB), H.ok, H.vars, H.ags, H.small⟩
theorem hp_args {w : World} {hb : Nat} {V : _root_.Fin 6 → Value} {avs : List Value} {most : Int} {h : Hp} (H : HpIn w hb V avs most h) (t : Nat) (ht : t < h.T.length) :
    ∃ g3 p3 ao cap, w.cell? ⟨hb, 3, none⟩ = some (.slice (some ⟨g3, 0, none⟩) h.T.length p3) ∧ h.T.length ≤ p3 ∧ p3 ≤ maxLen ∧ g3 < w.heap.size ∧ w.cell? ⟨g3, t, none⟩ = some (.slice ao (nd h.T t).ags.length cap) ∧ w.ownsRow 0 3 1 (.slice ao (nd h.T t).ags.length cap) (nd h.T t).ags.length (intsV (nd h.T t).ags) := by
  have hta : t < avs.length := by rw [H.tab.la]; exact ht
  have e : nd h.T t = h.T[t] := by simp [nd, ht]
  have c3 : w.cell? ⟨hb, 3, none⟩ = some (V 3) := H.tab.H.c 3
  obtain ⟨g3, p3, e3, a3, b3, l3, j3, k3⟩ := own_cell (j := t) (u := avs[t]) (H.tab.H.own 3) (by simp [tabC, hta])
  have x3 : (tabC h.T avs (tosOf h.T.length h.bs) (trOf h.bs) 3).length = h.T.length := by simp [tabC, H.tab.la]
  rw [x3] at e3 a3
  have hA := (H.tab.args t ht hta).1
  obtain ⟨ao, cap, ea⟩ := row_form hA
  rw [ea] at k3 hA
  rw [e]
  exact ⟨g3, p3, ao, cap, by rw [c3, e3], a3, b3, l3, k3, hA⟩
theorem anyS_drop {g : Nat → Int → Bool × Int} {l : List Nat} {j : Nat} (hj : j < l.length) (c : Int) : anyS g (l.drop j) c = if (g l[j] c).1 then (true, (g l[j] c).2) else anyS g (l.drop (j + 1)) (g l[j] c).2 := by
  rw [List.drop_eq_getElem_cons hj]
  rfl
def InPost (hb : Nat) (V : _root_.Fin 6 → Value) (avs : List Value) (most : Int) (h : Hp) (w : World) (r : Bool × Int) (e : Ending) (w' : World) : Prop :=
  e = .returned (.bool r.1) ∧ HpIn w' hb V avs most { h with cost := r.2 } ∧ HFr hb V V w w'
theorem in_spent {w : World} {hb : Nat} {V : _root_.Fin 6 → Value} {avs : List Value} {most : Int} {h : Hp} (H : HpIn w hb V avs most h) (hc0 : 0 ≤ h.cost) (hc : h.cost ≤ 1000000000000) (v t : Nat) (hs : spentB (h.cost + 1) most h.err = true) :
    Calls Tryz.prog 222 #[.pointer (some ⟨hb, 0, none⟩), .int .i64 v, .int .i64 t] w fun e w' => InPost hb V avs most h w (false, h.cost + 1) e w' := by
  have c6 : w.cell? ⟨hb, 6, none⟩ = some (.int .i64 h.cost) := H.tab.H.c 6
  have f6 := H.tab.H.fz 6
  have hhz := H.tab.H.lt_size
  obtain ⟨h1, hf1⟩ := H.count (h.cost + 1)
  have hsp := spent_x h1.tab.H
  rw [show (decide (most < h.cost + 1) || !(h.err == 0)) = true from hs] at hsp
  go_enter Tryz.func222, Tryz.ntmps222
  go_wp2_with (go_at_call 88; refine hsp.mono ?_; rintro e w2 ⟨rfl, nn, rfl⟩; have h2 := h1.below (below_drewN (Below.refl _ _) nn))
  go_ret
  exact ⟨rfl, h2, hf1.trans (HFr.of_below (below_drewN (Below.refl _ _) nn))⟩
theorem in_leaf {w : World} {hb : Nat} {V : _root_.Fin 6 → Value} {avs : List Value} {most : Int} {h : Hp} (H : HpIn w hb V avs most h) (hc0 : 0 ≤ h.cost) (hc : h.cost ≤ 1000000000000) (v t : Nat) (ht : t < h.T.length) (hs : spentB (h.cost + 1) most h.err = false) (hk : wk h.bs t ≠ v → (nd h.T (wk h.bs t)).k ≠ 99) :
    Calls Tryz.prog 222 #[.pointer (some ⟨hb, 0, none⟩), .int .i64 v, .int .i64 t] w fun e w' => InPost hb V avs most h w (decide (wk h.bs t = v), h.cost + 1) e w' := by
  have c6 : w.cell? ⟨hb, 6, none⟩ = some (.int .i64 h.cost) := H.tab.H.c 6
  have f6 := H.tab.H.fz 6
  have hhz := H.tab.H.lt_size
  have hsm := H.small
  obtain ⟨h1, hf1⟩ := H.count (h.cost + 1)
  have hsp := spent_x h1.tab.H
  rw [show (decide (most < h.cost + 1) || !(h.err == 0)) = false from hs] at hsp
  have hrl := wk_lt H.ok t ht
  have HW : Hid (∀ w3, HpIn w3 hb V avs most { h with cost := h.cost + 1 } → Calls Tryz.prog 98 #[.pointer (some ⟨hb, 0, none⟩), .int .i64 t] w3 fun e w' => e = .returned (.int .i64 (wk h.bs t)) ∧ w' = w3) := fun w3 h3 => walk_x h3 t ht
  have HC : Hid (∀ w3, HpIn w3 hb V avs most { h with cost := h.cost + 1 } → ∃ g0 cap0 g4 cap4, w3.cell? ⟨hb, 0, none⟩ = some (.slice (some ⟨g0, 0, none⟩) h.T.length cap0) ∧ w3.cell? ⟨hb, 4, none⟩ = some (.slice (some ⟨g4, 0, none⟩) h.T.length cap4) ∧ h.T.length ≤ cap0 ∧ cap0 ≤ maxLen ∧ h.T.length ≤ cap4 ∧ cap4 ≤ maxLen ∧ g0 < w3.heap.size ∧ g4 < w3.heap.size ∧
      w3.cell? ⟨g0, wk h.bs t, none⟩ = some (.int .u8 (nd h.T (wk h.bs t)).k) ∧ w3.cell? ⟨g4, wk h.bs t, none⟩ = some (.int .i64 (match toOf h.bs (wk h.bs t) with | some u => (u : Int) | none => -1))) := fun w3 h3 => hp_cells h3 _ hrl
  generalize wk h.bs t = r at *
  by_cases hrv : r = v
  · subst hrv
    clear hk HC
    rw [decide_eq_true rfl]
    go_enter Tryz.func222, Tryz.ntmps222
    go_wp2_with (first | (go_at_call 88; refine hsp.mono ?_; rintro e w2 ⟨rfl, nn, rfl⟩; have h2 := h1.below (below_drewN (Below.refl _ _) nn)) | (go_at_call 98; refine (HW.out _ h2).mono ?_; rintro e w3 ⟨rfl, rfl⟩))
    go_ret
    exact ⟨rfl, h2, hf1.trans (HFr.of_below (below_drewN (Below.refl _ _) nn))⟩
  · have hk' := hk hrv
    rw [decide_eq_false hrv]
    clear hk
    go_enter Tryz.func222, Tryz.ntmps222
    go_wp2_with (first | (go_at_call 88; refine hsp.mono ?_; rintro e w2 ⟨rfl, nn, rfl⟩; have h2 := h1.below (below_drewN (Below.refl _ _) nn); obtain ⟨g0, cap0, g4, cap4, c0, c4, a0, b0, a4, b4, l0, l4, k0, k4⟩ := HC.out _ h2) | (go_at_call 98; refine (HW.out _ h2).mono ?_; rintro e w3 ⟨rfl, rfl⟩))
    go_ret
    exact ⟨rfl, h2, hf1.trans (HFr.of_below (below_drewN (Below.refl _ _) nn))⟩
end Go.Proofs.YtodpkdajbnceoaaGreatDoor

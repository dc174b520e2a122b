import Derived.Test.YtodpkdajbnceoaaGreatDoorPart54
set_option linter.unusedVariables false
set_option linter.unusedSimpArgs false
namespace Go.Proofs.YtodpkdajbnceoaaGreatDoor
open Go.RowKit

/-! Sizes are told. -/

mutual
def hE : Ex → Nat
  | .cmp _ l => hL l + 1
  | _ => 0
def hL : List Ex → Nat
  | [] => 0
  | x :: l => hE x + hL l
end

theorem hL_get : ∀ {l : List Ex} {k : Nat} (hk : k < l.length), hE l[k] ≤ hL l
  | x :: l, 0, _ => by simp [hL]
  | x :: l, k + 1, hk => by
    have := hL_get (l := l) (k := k) (by simpa using hk)
    simp [hL]; omega

/-- the terms of one element -/
theorem arg_elem {w : World} {Ok : Nat → Prop} {l : List Ex} {v : Value} (h : ArgV w Ok l v) {k : Nat} (hk : k < l.length) :
    ∃ g cap x y z, v = .slice (some ⟨g, 0, none⟩) l.length cap ∧ l.length ≤ cap ∧ cap ≤ maxLen ∧ g < w.heap.size ∧ w.cell? ⟨g, k * 5 + 4, none⟩ = some (.slice x y z) ∧ ArgV w Ok (exArgs l[k]) (.slice x y z) := by
  rcases h with ⟨rfl, _⟩ | ⟨g, cap, cur, cs, rfl, ho, hg, hc, hm, hs, ht, hr⟩
  · simp at hk
  · have he := hr.get k hk
    obtain ⟨a, b, c, d, x, y, z, e⟩ := he.shape
    obtain ⟨t0, t1, t2, t3, t4⟩ := drop_take_get e
    rw [e] at he
    exact ⟨g, cap, x, y, z, rfl, hc, hm, (Array.getElem?_eq_some_iff.1 hg).1, rowCell hg ht t4, he.told.2.2.2⟩

theorem ArgV.len {w : World} {Ok : Nat → Prop} {l : List Ex} {v : Value} (h : ArgV w Ok l v) : l.length ≤ maxLen := by
  rcases h with ⟨rfl, _⟩ | ⟨g, cap, cur, cs, rfl, ho, hg, hc, hm, hs, ht, hr⟩
  · simp
  · omega

set_option maxRecDepth 100000 in
set_option maxHeartbeats 1000000 in
theorem size_of (l : List Ex) (v : Value) (w : World) (h : ArgV w (fun _ => True) l v)
    (hI : ∀ k (hk : k < l.length) (x : Option Addr) (y z : Nat), ArgV w (fun _ => True) (exArgs l[k]) (.slice x y z) → Calls Tryz.prog 70 #[.slice x y z] w fun e w' => (∃ k : Int, e = .returned (.int .i64 k)) ∧ w' = w) :
    Calls Tryz.prog 70 #[v] w fun e w' => (∃ k : Int, e = .returned (.int .i64 k)) ∧ w' = w := by
  have hlm := h.len
  obtain ⟨ao, cap, hv⟩ := h.form
  subst hv
  have HI := hide hI
  have HV := hide h
  clear h hI
  unfold maxLen at hlm
  go_enter Tryz.func70, Tryz.ntmps70
  go_wp2_with fail
  go_loopg [3, 4, 5] (l.length + 1) (fun g n i _ wr => wr = w ∧ ∃ (k : Int) (j : Nat), n = .int .i64 k ∧ i = .int .i64 j ∧ j ≤ l.length ∧ l.length - j < g)
  case atStart => exact ⟨rfl, 0, 0, rfl, rfl, Nat.zero_le _, by omega⟩
  case round =>
    obtain ⟨rfl, k, j, rfl, rfl, hj, hgj⟩ := hrel
    by_cases hjl : j < l.length
    · obtain ⟨g, cap', x, y, z, hq, hc1, hc2, hg, hcell, hA⟩ := arg_elem HV.out hjl
      cases hq
      go_wp2_with (go_at_call 70; refine (HI.out j hjl _ _ _ hA).mono ?_; rintro e w2 ⟨⟨m, rfl⟩, rfl⟩)
      go_roundg (l.length - j)
      case measure => exact hgj
      case rel => exact ⟨rfl, _, j + 1, rfl, rfl, hjl, by omega⟩
    · go_wp2_with fail
      go_ret
      exact ⟨⟨_, rfl⟩, rfl⟩

theorem exArgs_h (x : Ex) : exArgs x = [] ∨ hL (exArgs x) + 1 ≤ hE x := by
  cases x with
  | cmp n l => right; simp [exArgs, hE]
  | _ => left; rfl

theorem size_any : ∀ (N : Nat) (l : List Ex) (v : Value) (w : World), hL l ≤ N → ArgV w (fun _ => True) l v →
    Calls Tryz.prog 70 #[v] w fun e w' => (∃ k : Int, e = .returned (.int .i64 k)) ∧ w' = w
  | N, l, v, w, hN, h => size_of l v w h fun k hk x y z hA => by
    have hn : ∀ v, ArgV w (fun _ => True) [] v → Calls Tryz.prog 70 #[v] w fun e w' => (∃ k : Int, e = .returned (.int .i64 k)) ∧ w' = w := fun v h => size_of [] v w h fun k hk => absurd hk (by simp)
    rcases exArgs_h l[k] with q | q
    · rw [q] at hA
      exact hn _ hA
    · have hk2 := hL_get hk
      match N, hN with
      | 0, hN => omega
      | N + 1, hN => exact size_any N (exArgs l[k]) _ w (by omega) hA

theorem size_all (l : List Ex) (v : Value) (w : World) (h : ArgV w (fun _ => True) l v) : Calls Tryz.prog 70 #[v] w fun e w' => (∃ k : Int, e = .returned (.int .i64 k)) ∧ w' = w := size_any _ l v w (Nat.le_refl _) h

mutual
def hB : Bd → Nat
  | .mk _ _ _ l => hBL l + 1
def hBL : List Bd → Nat
  | [] => 0
  | x :: l => hB x + hBL l
end

theorem hBL_get : ∀ {l : List Bd} {k : Nat} (hk : k < l.length), hB l[k] ≤ hBL l
  | x :: l, 0, _ => by simp [hBL]
  | x :: l, k + 1, hk => by
    have := hBL_get (l := l) (k := k) (by simpa using hk)
    simp [hBL]; omega

theorem BRepL.get {w : World} {Ok : Nat → Prop} : ∀ {l : List Bd} {cs : List Value} (_ : BRepL w Ok l cs) (k : Nat) (hk : k < l.length), BRep w Ok l[k] ((cs.drop (k * 4)).take 4)
  | _, _, .cons x l a b hx hl, 0, _ => by
    have h5 := hx.len
    have e : ((a ++ b).drop (0 * 4)).take 4 = a := by rw [Nat.zero_mul, List.drop_zero, ← h5, List.take_left]
    rw [e]; exact hx
  | _, _, .cons x l a b hx hl, k + 1, hk => by
    have h5 := hx.len
    have := BRepL.get hl k (by simpa using hk)
    have e : (a ++ b).drop ((k + 1) * 4) = b.drop (k * 4) := by rw [show (k + 1) * 4 = a.length + k * 4 by omega, ← List.drop_drop, List.drop_left]
    rw [e]
    simpa using this

theorem drop_take_get4 {es : List Value} {k : Nat} {a b c d : Value} (h : (es.drop (k * 4)).take 4 = [a, b, c, d]) :
    es[k * 4]? = some a ∧ es[k * 4 + 1]? = some b ∧ es[k * 4 + 2]? = some c ∧ es[k * 4 + 3]? = some d := by
  have hj : ∀ j, j < 4 → es[k * 4 + j]? = [a, b, c, d][j]? := fun j hj => by
    rw [← h, List.getElem?_take, if_pos hj, List.getElem?_drop]
  exact ⟨hj 0 (by omega), hj 1 (by omega), hj 2 (by omega), hj 3 (by omega)⟩

/-- one part of a body -/
theorem part_elem {w : World} {Ok : Nat → Prop} {l : List Bd} {v : Value} (h : PRep w Ok l v) {k : Nat} (hk : k < l.length) :
    ∃ g cap a b c0 c1 c2 d0 d1 d2, v = .slice (some ⟨g, 0, none⟩) l.length cap ∧ l.length ≤ cap ∧ cap ≤ maxLen ∧ g < w.heap.size ∧ w.cell? ⟨g, k * 4, none⟩ = some (.int .u8 a) ∧ w.cell? ⟨g, k * 4 + 1, none⟩ = some (.string b) ∧ w.cell? ⟨g, k * 4 + 2, none⟩ = some (.slice c0 c1 c2) ∧ w.cell? ⟨g, k * 4 + 3, none⟩ = some (.slice d0 d1 d2) ∧
      BRep w Ok l[k] [.int .u8 a, .string b, .slice c0 c1 c2, .slice d0 d1 d2] := by
  cases h with
  | none => simp at hk
  | some _ g cap cur cs ho hg hc hm hs ht hr =>
    have he := hr.get k hk
    obtain ⟨a, b, c0, c1, c2, d0, d1, d2, e⟩ := he.shape
    obtain ⟨t0, t1, t2, t3⟩ := drop_take_get4 e
    rw [e] at he
    exact ⟨g, cap, a, b, c0, c1, c2, d0, d1, d2, rfl, hc, hm, (Array.getElem?_eq_some_iff.1 hg).1, rowCell hg ht t0, rowCell hg ht t1, rowCell hg ht t2, rowCell hg ht t3, he⟩

theorem PRep.len {w : World} {Ok : Nat → Prop} {l : List Bd} {v : Value} (h : PRep w Ok l v) : l.length ≤ maxLen := by
  cases h with
  | none => simp
  | some _ g cap cur cs ho hg hc hm hs ht hr => omega

theorem below_next {a b c : World} (h : Below a.heap.size a b) (k : Below b.heap.size b c) : Below a.heap.size a c := h.trans (k.mono h.size)

def WPostI (w : World) (e : Ending) (w' : World) : Prop := (∃ k : Int, e = .returned (.int .i64 k)) ∧ Below w.heap.size w w'

theorem tr_frame {w w' : World} (hb : Below w.heap.size w w') : ∀ b, True → b < w.heap.size → w'.heap[b]? = w.heap[b]? ∧ True := fun b _ hlt => ⟨hb.block b hlt, trivial⟩

set_option maxRecDepth 100000 in
set_option maxHeartbeats 1000000 in
theorem weight_of (k0 : Int) (n0 : ByteArray) (args : List Ex) (l : List Bd) (cs : List Value) (w : World) (h : BRep w (fun _ => True) (.mk k0 n0 args l) cs)
    (hI : ∀ k (hk : k < l.length) (ds : List Value) (w1 : World), BRep w1 (fun _ => True) l[k] ds → Calls Tryz.prog 71 #[.agg ds.toArray] w1 fun e w' => WPostI w1 e w') :
    Calls Tryz.prog 71 #[.agg cs.toArray] w fun e w' => WPostI w e w' := by
  cases h with
  | mk _ _ _ _ av pv ha hp =>
    obtain ⟨a0, a2, hav⟩ := ha.form
    subst hav
    obtain ⟨p0, p2, hpv⟩ := hp.form
    subst hpv
    have hlm := hp.len
    unfold maxLen at hlm
    obtain ⟨w0, hw0⟩ : ∃ w0, w0 = w.alloc (.cells #[.int .u8 k0, .string n0, .slice a0 args.length a2, .slice p0 l.length p2] 47) := ⟨_, rfl⟩
    have hb0 : Below w.heap.size w w0 := by rw [hw0]; exact (Below.refl _ _).alloc (Nat.le_refl _) _
    have hx0 : w0.heap[w.heap.size]? = some (.cells #[.int .u8 k0, .string n0, .slice a0 args.length a2, .slice p0 l.length p2] 47 (0, 0)) := by rw [hw0]; exact heap_alloc_new _ _
    have ha0 := ha.frame (tr_frame hb0)
    have hp0 := hp.frame (tr_frame hb0)
    have HSz := hide (size_all _ _ _ ha0)
    have HI := hide hI
    have HP := hide hp0
    have HX := hide hx0
    have HB := hide hb0
    obtain ⟨c0, c1, c2, c3, cf⟩ := box4 hx0
    have hz : w.heap.size < w0.heap.size := (Array.getElem?_eq_some_iff.1 hx0).1
    have hwe : w.alloc (.cells #[.int .u8 k0, .string n0, .slice a0 args.length a2, .slice p0 l.length p2] 47) = w0 := hw0.symm
    clear hI ha hp ha0 hp0 hx0 hb0 hw0
    go_enter Tryz.func71, Tryz.ntmps71
    go_upto_region 2 with (go_at_call 70; refine HSz.out.mono ?_; rintro e w1 ⟨⟨m, rfl⟩, rfl⟩)
    go_cut [0, 16] (fun _ b wx => w1 = wx ∧ ∃ c, b = .bool c)
    case first =>
      go_wp2_with fail
      all_goals
        go_meet
        case rel => exact ⟨rfl, _, rfl⟩
    case rest =>
      obtain ⟨rfl, c, rfl⟩ := hcut
      go_upto_if 16 with fail
      go_cut [3] (fun n wx => w1 = wx ∧ ∃ k : Int, n = .int .i64 k)
      case first =>
        go_wp2_with fail
        all_goals
          go_meet
          case rel => exact ⟨rfl, _, rfl⟩
      case rest =>
        obtain ⟨rfl, k, rfl⟩ := hcut
        go_wp2_with fail
        go_loopg [3, 4, 5] (l.length + 1) (fun g n i _ wr => Below w1.heap.size w1 wr ∧ ∃ (k : Int) (j : Nat), n = .int .i64 k ∧ i = .int .i64 j ∧ j ≤ l.length ∧ l.length - j < g)
        case atStart => exact ⟨Below.refl _ _, _, 0, rfl, rfl, Nat.zero_le _, by omega⟩
        case round =>
          obtain ⟨hbr, k, j, rfl, rfl, hj, hgj⟩ := hrel
          obtain ⟨c0, c1, c2, c3, cf⟩ := box4 ((hbr.block _ hz).trans HX.out)
          have hzr : w.heap.size < wr.heap.size := Nat.lt_of_lt_of_le hz hbr.size
          by_cases hjl : j < l.length
          · obtain ⟨g, cap', a, b, e0, e1, e2, f0, f1, f2, hq, hc1, hc2, hg, q0, q1, q2, q3, hA⟩ := part_elem (HP.out.frame (tr_frame hbr)) hjl
            cases hq
            go_wp2_with (go_at_call 71; refine (HI.out j hjl [.int .u8 a, .string b, .slice e0 e1 e2, .slice f0 f1 f2] _ hA).mono ?_; rintro e w2 ⟨⟨m, rfl⟩, hb2⟩)
            go_roundg (l.length - j)
            case measure => exact hgj
            case rel => exact ⟨below_next hbr hb2, _, j + 1, rfl, rfl, hjl, by omega⟩
          · go_wp2_with fail
            go_ret
            exact ⟨⟨_, rfl⟩, below_next HB.out hbr⟩

theorem weight_any : ∀ (N : Nat) (b : Bd) (cs : List Value) (w : World), hB b ≤ N → BRep w (fun _ => True) b cs → Calls Tryz.prog 71 #[.agg cs.toArray] w fun e w' => WPostI w e w'
  | 0, .mk k n args l, cs, w, hN, h => by simp [hB] at hN
  | N + 1, .mk k n args l, cs, w, hN, h => weight_of k n args l cs w h fun j hj ds w1 hd => weight_any N l[j] ds w1 (by have := hBL_get hj; simp [hB] at hN; omega) hd

theorem weight_all (b : Bd) (cs : List Value) (w : World) (h : BRep w (fun _ => True) b cs) : Calls Tryz.prog 71 #[.agg cs.toArray] w fun e w' => WPostI w e w' := weight_any _ b cs w (Nat.le_refl _) h

end Go.Proofs.YtodpkdajbnceoaaGreatDoor

namespace Go.Proofs.YtodpkdajbnceoaaGreatDoor
open Go.RowKit

theorem CRepL.get {w : World} {Ok : Nat → Prop} : ∀ {l : List Cl} {cs : List Value} (_ : CRepL w Ok l cs) (k : Nat) (hk : k < l.length), CRep w Ok l[k] ((cs.drop (k * 7)).take 7)
  | _, _, .cons x l a b hx hl, 0, _ => by
    have h5 := hx.len
    have e : ((a ++ b).drop (0 * 7)).take 7 = a := by rw [Nat.zero_mul, List.drop_zero, ← h5, List.take_left]
    rw [e]; exact hx
  | _, _, .cons x l a b hx hl, k + 1, hk => by
    have h5 := hx.len
    have := CRepL.get hl k (by simpa using hk)
    have e : (a ++ b).drop ((k + 1) * 7) = b.drop (k * 7) := by rw [show (k + 1) * 7 = a.length + k * 7 by omega, ← List.drop_drop, List.drop_left]
    rw [e]
    simpa using this

theorem drop_take_get7 {es : List Value} {k : Nat} {a b c d e f g : Value} (h : (es.drop (k * 7)).take 7 = [a, b, c, d, e, f, g]) :
    es[k * 7]? = some a ∧ es[k * 7 + 1]? = some b ∧ es[k * 7 + 2]? = some c ∧ es[k * 7 + 3]? = some d ∧ es[k * 7 + 4]? = some e ∧ es[k * 7 + 5]? = some f ∧ es[k * 7 + 6]? = some g := by
  have hj : ∀ j, j < 7 → es[k * 7 + j]? = [a, b, c, d, e, f, g][j]? := fun j hj => by
    rw [← h, List.getElem?_take, if_pos hj, List.getElem?_drop]
  exact ⟨hj 0 (by omega), hj 1 (by omega), hj 2 (by omega), hj 3 (by omega), hj 4 (by omega), hj 5 (by omega), hj 6 (by omega)⟩

/-- one clause of a program -/
theorem clause_elem {w : World} {Ok : Nat → Prop} {base n cap : Nat} {ao : Option Addr} {l : List Cl} {cs : List Value} (h : w.ownsRow base 50 7 (.slice ao n cap) n cs) (hr : CRepL w Ok l cs) (hn : n = l.length) {k : Nat} (hk : k < l.length) :
    ∃ g y0 y1 y2 y3 y4 y5 y6 y7 y8 y9 y10 y11 y12 y13 y14, ao = some ⟨g, 0, none⟩ ∧ n ≤ cap ∧ cap ≤ maxLen ∧ g < w.heap.size ∧
      w.cell? ⟨g, k * 7, none⟩ = some (.string y0) ∧ w.cell? ⟨g, k * 7 + 1, none⟩ = some (.slice y1 y2 y3) ∧ w.cell? ⟨g, k * 7 + 2, none⟩ = some (.int .u8 y4) ∧ w.cell? ⟨g, k * 7 + 3, none⟩ = some (.string y5) ∧ w.cell? ⟨g, k * 7 + 4, none⟩ = some (.slice y6 y7 y8) ∧ w.cell? ⟨g, k * 7 + 5, none⟩ = some (.slice y9 y10 y11) ∧ w.cell? ⟨g, k * 7 + 6, none⟩ = some (.slice y12 y13 y14) ∧
      CRep w Ok l[k] [.string y0, .slice y1 y2 y3, .int .u8 y4, .string y5, .slice y6 y7 y8, .slice y9 y10 y11, .slice y12 y13 y14] := by
  rcases h.2 with ⟨_, h0⟩ | ⟨g, cap', cur, hv, _, hgg, hcap, hmx, hsz, htk⟩
  · omega
  · cases hv
    have he := hr.get k hk
    obtain ⟨y0, y1, y2, y3, y4, y5, y6, y7, y8, y9, y10, y11, y12, y13, y14, e⟩ := he.shape
    obtain ⟨t0, t1, t2, t3, t4, t5, t6⟩ := drop_take_get7 e
    rw [e] at he
    exact ⟨g, y0, y1, y2, y3, y4, y5, y6, y7, y8, y9, y10, y11, y12, y13, y14, rfl, hcap, hmx, (Array.getElem?_eq_some_iff.1 hgg).1, rowCell hgg htk t0, rowCell hgg htk t1, rowCell hgg htk t2, rowCell hgg htk t3, rowCell hgg htk t4, rowCell hgg htk t5, rowCell hgg htk t6, he⟩

set_option maxRecDepth 100000 in
set_option maxHeartbeats 1000000 in
theorem sizeC_any (c : Cl) (y0 : ByteArray) (y1 : Option Addr) (y2 y3 : Nat) (y4 : Int) (y5 : ByteArray) (y6 : Option Addr) (y7 y8 : Nat) (y9 : Option Addr) (y10 y11 : Nat) (y12 : Option Addr) (y13 y14 : Nat) (w : World)
    (h : CRep w (fun _ => True) c [.string y0, .slice y1 y2 y3, .int .u8 y4, .string y5, .slice y6 y7 y8, .slice y9 y10 y11, .slice y12 y13 y14]) :
    Calls Tryz.prog 41 #[.agg #[.string y0, .slice y1 y2 y3, .int .u8 y4, .string y5, .slice y6 y7 y8, .slice y9 y10 y11, .slice y12 y13 y14]] w fun e w' => WPostI w e w' := by
  obtain ⟨av, k, m, ba, bq, vv, hq, h1, h2, h3⟩ := h
  cases hq
  obtain ⟨w0, hw0⟩ : ∃ w0, w0 = w.alloc (.cells #[.string c.name, .slice y1 y2 y3, .int .u8 y4, .string y5, .slice y6 y7 y8, .slice y9 y10 y11, .slice y12 y13 y14] 50) := ⟨_, rfl⟩
  have hb0 : Below w.heap.size w w0 := by rw [hw0]; exact (Below.refl _ _).alloc (Nat.le_refl _) _
  have hx0 : w0.heap[w.heap.size]? = some (.cells #[.string c.name, .slice y1 y2 y3, .int .u8 y4, .string y5, .slice y6 y7 y8, .slice y9 y10 y11, .slice y12 y13 y14] 50 (0, 0)) := by rw [hw0]; exact heap_alloc_new _ _
  have hwe : w.alloc (.cells #[.string c.name, .slice y1 y2 y3, .int .u8 y4, .string y5, .slice y6 y7 y8, .slice y9 y10 y11, .slice y12 y13 y14] 50) = w0 := hw0.symm
  have HS : Hid (∀ w1, Below w0.heap.size w0 w1 → Calls Tryz.prog 70 #[.slice y1 y2 y3] w1 fun e w' => (∃ k : Int, e = .returned (.int .i64 k)) ∧ w' = w1) := fun w1 hb => size_all _ _ _ (h1.frame (tr_frame (below_next hb0 hb)))
  have HW : Hid (∀ w1, Below w0.heap.size w0 w1 → Calls Tryz.prog 71 #[.agg #[.int .u8 y4, .string y5, .slice y6 y7 y8, .slice y9 y10 y11]] w1 fun e w' => WPostI w1 e w') := fun w1 hb => weight_all _ [.int .u8 y4, .string y5, .slice y6 y7 y8, .slice y9 y10 y11] _ (h2.frame (tr_frame (below_next hb0 hb)))
  obtain ⟨c0, c1, c2, c3, c4, c5, c6, cf⟩ := box7 hx0
  have hz : w.heap.size < w0.heap.size := (Array.getElem?_eq_some_iff.1 hx0).1
  have HB := hide hb0
  have HX := hide hx0
  clear h1 h2 h3 hb0 hx0 hw0
  go_enter Tryz.func41, Tryz.ntmps41
  go_wp2_with fail
  go_region_with (first | (go_at_call 70; refine (HS.out _ (by first | exact hbq | exact (Below.refl _ _).drew | exact Below.refl _ _)).mono ?_; rintro e w1 ⟨⟨m, rfl⟩, rfl⟩) | (go_at_call 71; refine (HW.out _ (by first | exact (Below.refl _ _).drew | exact Below.refl _ _)).mono ?_; rintro e w1 ⟨⟨m, rfl⟩, hb1⟩; have hbq := below_next (Below.drew (Below.refl w0.heap.size w0)) hb1))
  all_goals
    go_wp2_with fail
    go_ret
    exact ⟨⟨_, rfl⟩, below_next HB.out hbq⟩

/-- what plain.Load must answer -/
def LoadPost (s : ByteArray) (w : World) (e : Ending) (w' : World) : Prop :=
  Below w.heap.size w w' ∧
  match progS s with
  | .error (er, a) => e = .returned (.tuple #[.pointer none, .int .i64 er, .int .i64 a])
  | .ok _ => ∃ (p : Addr) (a : Int), e = .returned (.tuple #[.pointer (some p), .int .i64 0, .int .i64 a])

def baseZero : Array Value := #[.pointer none, .slice none 0 0, .bool false]

theorem box3b {w : World} {b : Nat} {x0 x1 x2 : Value} {T : TypeId} (h : w.heap[b]? = some (.cells #[x0, x1, x2] T (0, 0))) :
    w.cell? ⟨b, 0, none⟩ = some x0 ∧ w.cell? ⟨b, 1, none⟩ = some x1 ∧ w.cell? ⟨b, 2, none⟩ = some x2 ∧ ∀ j, w.frozen? ⟨b, j, none⟩ = false :=
  ⟨by rw [cell_of_block h]; rfl, by rw [cell_of_block h]; rfl, by rw [cell_of_block h]; rfl, fun j => by simp [World.frozen?, h]⟩

/-- what loaded hands back: true, with whatever base -/
def LdPost (w : World) (e : Ending) (w' : World) : Prop := Below w.heap.size w w' ∧ ∃ x v n c h, e = .returned (.tuple #[.agg #[.pointer x, .slice v n c, .bool h], .bool true])

theorem below_set3 {n : Nat} {a w : World} (h : Below n a w) {b : Nat} (hb : n ≤ b) (x0 x1 x2 : Value) : Below n a (((w.setCell ⟨b, 0, none⟩ x0).setCell ⟨b, 1, none⟩ x1).setCell ⟨b, 2, none⟩ x2) := ((h.setCell hb x0).setCell hb x1).setCell hb x2

/-- the box of the base, in the loop -/
structure LdAt (w : World) (wr : World) (w3 : World) (x0 x1 : Value) (c : Bool) : Prop where
  below : Below w3.heap.size w3 wr
  box : wr.heap[w3.heap.size]? = some (.cells #[x0, x1, .bool c] 26 (0, 0))

set_option maxRecDepth 100000 in
set_option maxHeartbeats 2000000 in
theorem loaded_any (s : ByteArray) (w : World) (hs : s.size ≤ 32768) (hL : ∀ w1, Below w.heap.size w w1 → Calls Tryz.prog 33 #[.string s] w1 fun e w' => LoadPost s w1 e w') :
    Calls Tryz.prog 16 #[.string s] w fun e w' => LdPost w e w' := by
  obtain ⟨w0, hw0⟩ : ∃ w0, w0 = w.alloc (.cells baseZero 26) := ⟨_, rfl⟩
  have hb0 : Below w.heap.size w w0 := by rw [hw0]; exact (Below.refl _ _).alloc (Nat.le_refl _) _
  have hx0 : w0.heap[w.heap.size]? = some (.cells baseZero 26 (0, 0)) := by rw [hw0]; exact heap_alloc_new _ _
  have hz : w.heap.size < w0.heap.size := (Array.getElem?_eq_some_iff.1 hx0).1
  have HL := hide (hL w0 hb0)
  rw [hw0] at HL
  have HT := hide (fun w' => program_any s w' hs)
  have HB := hide hb0
  have HX := hide hx0
  have HW := hide hw0
  clear hL hb0 hx0 hw0
  cases ht : progS s with
  | error p =>
    obtain ⟨er, a⟩ := p
    have HL2 : Hid (Calls Tryz.prog 33 #[.string s] (w.alloc (.cells baseZero 26)) fun e w' => Below (w.alloc (.cells baseZero 26)).heap.size (w.alloc (.cells baseZero 26)) w' ∧ e = .returned (.tuple #[.pointer none, .int .i64 er, .int .i64 a])) := HL.out.mono fun e w' h => by
      unfold LoadPost at h; rw [ht] at h; exact h
    have HT2 : Hid (∀ w', Calls Tryz.prog 40 #[.string s] w' fun e w'' => Below w'.heap.size w' w'' ∧ e = .returned (.tuple #[.slice none 0 0, .int .i64 er, .int .i64 a]) ∧ er ≠ 0) := fun w' => (HT.out w').mono fun e w'' h => by
      unfold ProgPost at h; rw [ht] at h; exact h
    clear HL HT ht
    go_enter Tryz.func16, Tryz.ntmps16
    go_wp2_with (go_at_call 33; refine HL2.out.mono ?_; rintro e w1 ⟨hB1, rfl⟩)
    refine (HT2.out _).mono ?_
    rintro e w2 ⟨hB2, rfl, hne⟩
    have hne' : (er == 0) = false := by simpa using hne
    have hB12 := below_next hB1 hB2
    rw [← HW.out] at hB12
    obtain ⟨d0, d1, d2, df⟩ := box3b ((hB12.block _ hz).trans HX.out)
    go_wp2_with fail
    exact bodyPost_ret (v := .tuple #[.agg #[.pointer none, .slice none 0 0, .bool false], .bool true]) (by simp [results, Tryz.results16, go_sem, d0, d1, d2]) rfl ⟨below_set3 (below_next HB.out hB12) (Nat.le_refl _) _ _ _, _, _, _, _, _, rfl⟩
  | ok l =>
    have HL2 : Hid (Calls Tryz.prog 33 #[.string s] (w.alloc (.cells baseZero 26)) fun e w' => Below (w.alloc (.cells baseZero 26)).heap.size (w.alloc (.cells baseZero 26)) w' ∧ ∃ (p : Addr) (a : Int), e = .returned (.tuple #[.pointer (some p), .int .i64 0, .int .i64 a])) := HL.out.mono fun e w' h => by
      unfold LoadPost at h; rw [ht] at h; exact h
    have HT2 : Hid (∀ w', Calls Tryz.prog 40 #[.string s] w' fun e w'' => Below w'.heap.size w' w'' ∧ ∃ v cs, e = .returned (.tuple #[v, .int .i64 0, .int .i64 (-1)]) ∧ w''.ownsRow w'.heap.size 50 7 v l.length cs ∧ l.length ≤ 40 ∧ CRepL w'' (fun b => w'.heap.size ≤ b) l cs) := fun w' => (HT.out w').mono fun e w'' h => by
      unfold ProgPost at h; rw [ht] at h; exact h
    clear HL HT ht
    go_enter Tryz.func16, Tryz.ntmps16
    go_upto_block 0 with (first | (go_at_call 33; refine HL2.out.mono ?_; rintro e w1 ⟨hB1, p, a, rfl⟩) | (go_at_call 40; refine (HT2.out _).mono ?_; rintro e w2 ⟨hB2, v, cs, rfl, hown, h40, hrep⟩; obtain ⟨ao, cap, hv⟩ := row_form hown; subst hv))
    have hB12 := below_next hB1 hB2
    rw [← HW.out] at hB12
    have hx2 := (hB12.block _ hz).trans HX.out
    have hz2 : w.heap.size < w2.heap.size := Nat.lt_of_lt_of_le hz hB12.size
    have HO := hide hown
    have HR := hide hrep
    clear hown hrep HL2 HT2
    go_wp2_with fail
    go_loopg [11, 12] (l.length + 1) (fun g i _ wr => ∃ (c : Bool) (j : Nat), i = .int .i64 j ∧ j ≤ l.length ∧ l.length - j < g ∧ LdAt w wr w2 (.pointer (some p)) (.slice ao l.length cap) c)
    case atStart => exact ⟨false, 0, rfl, Nat.zero_le _, by omega, (Below.refl _ _).alloc (Nat.le_refl _) _, heap_alloc_new _ _⟩
    case round =>
      obtain ⟨c, j, rfl, hj, hgj, hA⟩ := hrel
      obtain ⟨c0, c1, c2, cf⟩ := box3b hA.box
      have hzb : w2.heap.size < wr.heap.size := (Array.getElem?_eq_some_iff.1 hA.box).1
      by_cases hjl : j < l.length
      · obtain ⟨g, y0, y1, y2, y3, y4, y5, y6, y7, y8, y9, y10, y11, y12, y13, y14, rfl, hc1, hc2, hg, q0, q1, q2, q3, q4, q5, q6, hC⟩ := clause_elem (own_bl HO.out hA.below) (HR.out.frame (fun b hb hlt => ⟨hA.below.block b hlt, trivial⟩) : CRepL wr (fun _ => True) l cs) rfl hjl
        have HC : Hid (Calls Tryz.prog 41 #[.agg #[.string y0, .slice y1 y2 y3, .int .u8 y4, .string y5, .slice y6 y7 y8, .slice y9 y10 y11, .slice y12 y13 y14]] wr fun e w' => WPostI wr e w') := sizeC_any _ _ _ _ _ _ _ _ _ _ _ _ _ _ _ _ wr hC
        clear hC
        go_upto_region 10 with (go_at_call 41; refine HC.out.mono ?_; rintro e w4 ⟨⟨m, rfl⟩, hb4⟩)
        have hbx : w4.heap[w2.heap.size]? = some (.cells #[.pointer (some p), .slice (some ⟨g, 0, none⟩) l.length cap, .bool c] 26 (0, 0)) := (hb4.block _ hzb).trans hA.box
        obtain ⟨c0, c1, c2, cf⟩ := box3b hbx
        have hzb4 : w2.heap.size < w4.heap.size := Nat.lt_of_lt_of_le hzb hb4.size
        have hA4 : ∀ c', LdAt w (w4.setCell ⟨w2.heap.size, 2, none⟩ (.bool c')) w2 (.pointer (some p)) (.slice (some ⟨g, 0, none⟩) l.length cap) c' := fun c' =>
          ⟨Below.setCell (below_next hA.below hb4) (Nat.le_refl w2.heap.size) _, heap_setCell_same hbx⟩
        clear HC
        go_wp2_with fail
        all_goals
          go_roundg (l.length - j)
          case measure => exact hgj
          case rel => exact ⟨_, j + 1, rfl, hjl, by omega, hA4 _⟩
      · have hx3 := (hA.below.block _ hz2).trans hx2
        obtain ⟨d0, d1, d2, df⟩ := box3b hx3
        have hz3 : w.heap.size < wr.heap.size := Nat.lt_of_lt_of_le hz2 hA.below.size
        go_wp2_with fail
        exact bodyPost_ret (v := .tuple #[.agg #[.pointer (some p), .slice ao l.length cap, .bool c], .bool true]) (by simp [results, Tryz.results16, go_sem, d0, d1, d2]) rfl ⟨below_set3 (below_next HB.out (below_next hB12 hA.below)) (Nat.le_refl _) _ _ _, _, _, _, _, _, rfl⟩

set_option maxRecDepth 100000 in
set_option maxHeartbeats 1000000 in
theorem loads_any (s : ByteArray) (w : World) (hs : s.size ≤ 9223372036854775807) (hL : s.size ≤ 32768 → ∀ w1, Below w.heap.size w w1 → Calls Tryz.prog 33 #[.string s] w1 fun e w' => LoadPost s w1 e w') :
    Calls Tryz.prog 4 #[.string s] w fun e w' => Below w.heap.size w w' ∧ e = .returned (.bool true) := by
  by_cases h : s.size ≤ 32768
  · have HR := hide (loaded_any s w h (hL h))
    clear hL
    go_enter Tryz.func4, Tryz.ntmps4
    go_wp2_with (first | (go_at_call 16; refine HR.out.mono ?_; rintro e w1 ⟨hB1, x, v, n, c, hh, rfl⟩))
    go_ret
    exact ⟨hB1.alloc hB1.size _, rfl⟩
  · clear hL
    go_enter Tryz.func4, Tryz.ntmps4
    go_wp2_with fail
    go_ret
    exact ⟨Below.refl _ _, rfl⟩

end Go.Proofs.YtodpkdajbnceoaaGreatDoor

import Derived.Test.YtodpkdajbnceoaaGreatDoorPart11
set_option linter.all false
set_option maxHeartbeats 1000000
set_option maxRecDepth 100000
namespace Go.Proofs.YtodpkdajbnceoaaGreatDoor
open Go.RowKit
mutual
def hE : Ex → Nat
  | .cmp _ l => hL l + 1
  | _ => 0
def hL : List Ex → Nat
  | [] => 0
  | x :: l => hE x + hL l
end
theorem hL_get : ∀ {l : List Ex} {k : Nat} (hk : k < l.length), hE l[k] ≤ hL l
  | x :: l, 0, _ => by simp [hL]
  | x :: l, k + 1, hk => by
    have := hL_get (l := l) (k := k) (by simpa using hk)
    simp [hL]; omega
theorem arg_elem {w : World} {Ok : Nat → Prop} {l : List Ex} {v : Value} (h : ArgV w Ok l v) {k : Nat} (hk : k < l.length) :
    ∃ g cap x y z, v = .slice (some ⟨g, 0, none⟩) l.length cap ∧ l.length ≤ cap ∧ cap ≤ maxLen ∧ g < w.heap.size ∧ w.cell? ⟨g, k * 5 + 4, none⟩ = some (.slice x y z) ∧ ArgV w Ok (exArgs l[k]) (.slice x y z) := by
  rcases h with ⟨rfl, _⟩ | ⟨g, cap, cur, cs, rfl, ho, hg, hc, hm, hs, ht, hr⟩
  · simp at hk
  · have he := hr.get k hk
    obtain ⟨a, b, c, d, x, y, z, e⟩ := he.shape
    obtain ⟨t0, t1, t2, t3, t4⟩ := drop_take_get e
    rw [e] at he
    exact ⟨g, cap, x, y, z, rfl, hc, hm, (Array.getElem?_eq_some_iff.1 hg).1, rowCell hg ht t4, he.told.2.2.2⟩
theorem ArgV.len {w : World} {Ok : Nat → Prop} {l : List Ex} {v : Value} (h : ArgV w Ok l v) : l.length ≤ maxLen := by
  rcases h with ⟨rfl, _⟩ | ⟨g, cap, cur, cs, rfl, ho, hg, hc, hm, hs, ht, hr⟩
  · simp
  · omega
theorem size_of (l : List Ex) (v : Value) (w : World) (h : ArgV w (fun _ => True) l v)
    (hI : ∀ k (hk : k < l.length) (x : Option Addr) (y z : Nat), ArgV w (fun _ => True) (exArgs l[k]) (.slice x y z) → Calls Tryz.prog 70 #[.slice x y z] w fun e w' => (∃ k : Int, e = .returned (.int .i64 k)) ∧ w' = w) :
    Calls Tryz.prog 70 #[v] w fun e w' => (∃ k : Int, e = .returned (.int .i64 k)) ∧ w' = w := by
  have hlm := h.len
  obtain ⟨ao, cap, hv⟩ := h.form
  subst hv
  have HI := hide hI
  have HV := hide h
  clear h hI
  unfold maxLen at hlm
  go_enter Tryz.func70, Tryz.ntmps70
  go_wp2_with fail
  go_loopg [3, 4, 5] (l.length + 1) (fun g n i _ wr => wr = w ∧ ∃ (k : Int) (j : Nat), n = .int .i64 k ∧ i = .int .i64 j ∧ j ≤ l.length ∧ l.length - j < g)
  case atStart => exact ⟨rfl, 0, 0, rfl, rfl, Nat.zero_le _, by omega⟩
  case round =>
    obtain ⟨rfl, k, j, rfl, rfl, hj, hgj⟩ := hrel
    by_cases hjl : j < l.length
    · obtain ⟨g, cap', x, y, z, hq, hc1, hc2, hg, hcell, hA⟩ := arg_elem HV.out hjl
      cases hq
      go_wp2_with (go_at_call 70; refine (HI.out j hjl _ _ _ hA).mono ?_; rintro e w2 ⟨⟨m, rfl⟩, rfl⟩)
      go_roundg (l.length - j)
      case measure => exact hgj
      case rel => exact ⟨rfl, _, j + 1, rfl, rfl, hjl, by omega⟩
    · go_wp2_with fail
      go_ret
      exact ⟨⟨_, rfl⟩, rfl⟩
theorem exArgs_h (x : Ex) : exArgs x = [] ∨ hL (exArgs x) + 1 ≤ hE x := by
  cases x with
  | cmp n l => right; simp [exArgs, hE]
  | _ => left; rfl
theorem size_any : ∀ (N : Nat) (l : List Ex) (v : Value) (w : World), hL l ≤ N → ArgV w (fun _ => True) l v →
    Calls Tryz.prog 70 #[v] w fun e w' => (∃ k : Int, e = .returned (.int .i64 k)) ∧ w' = w
  | N, l, v, w, hN, h => size_of l v w h fun k hk x y z hA => by
    have hn : ∀ v, ArgV w (fun _ => True) [] v → Calls Tryz.prog 70 #[v] w fun e w' => (∃ k : Int, e = .returned (.int .i64 k)) ∧ w' = w := fun v h => size_of [] v w h fun k hk => absurd hk (by simp)
    rcases exArgs_h l[k] with q | q
    · rw [q] at hA
      exact hn _ hA
    · have hk2 := hL_get hk
      match N, hN with
      | 0, hN => omega
      | N + 1, hN => exact size_any N (exArgs l[k]) _ w (by omega) hA
theorem size_all (l : List Ex) (v : Value) (w : World) (h : ArgV w (fun _ => True) l v) : Calls Tryz.prog 70 #[v] w fun e w' => (∃ k : Int, e = .returned (.int .i64 k)) ∧ w' = w := size_any _ l v w (Nat.le_refl _) h
mutual
def hB : Bd → Nat
  | .mk _ _ _ l => hBL l + 1
def hBL : List Bd → Nat
  | [] => 0
  | x :: l => hB x + hBL l
end
theorem hBL_get : ∀ {l : List Bd} {k : Nat} (hk : k < l.length), hB l[k] ≤ hBL l
  | x :: l, 0, _ => by simp [hBL]
  | x :: l, k + 1, hk => by
    have := hBL_get (l := l) (k := k) (by simpa using hk)
    simp [hBL]; omega
theorem BRepL.get {w : World} {Ok : Nat → Prop} : ∀ {l : List Bd} {cs : List Value} (_ : BRepL w Ok l cs) (k : Nat) (hk : k < l.length), BRep w Ok l[k] ((cs.drop (k * 4)).take 4)
  | _, _, .cons x l a b hx hl, 0, _ => by
    have h5 := hx.len
    have e : ((a ++ b).drop (0 * 4)).take 4 = a := by rw [Nat.zero_mul, List.drop_zero, ← h5, List.take_left]
    rw [e]; exact hx
  | _, _, .cons x l a b hx hl, k + 1, hk => by
    have h5 := hx.len
    have := BRepL.get hl k (by simpa using hk)
    have e : (a ++ b).drop ((k + 1) * 4) = b.drop (k * 4) := by rw [show (k + 1) * 4 = a.length + k * 4 by omega, ← List.drop_drop, List.drop_left]
    rw [e]
    simpa using this
theorem drop_take_get4 {es : List Value} {k : Nat} {a b c d : Value} (h : (es.drop (k * 4)).take 4 = [a, b, c, d]) :
    es[k * 4]? = some a ∧ es[k * 4 + 1]? = some b ∧ es[k * 4 + 2]? = some c ∧ es[k * 4 + 3]? = some d := by
  have hj : ∀ j, j < 4 → es[k * 4 + j]? = [a, b, c, d][j]? := fun j hj => by
    rw [← h, List.getElem?_take, if_pos hj, List.getElem?_drop]
  exact ⟨hj 0 (by omega), hj 1 (by omega), hj 2 (by omega), hj 3 (by omega)⟩
theorem part_elem {w : World} {Ok : Nat → Prop} {l : List Bd} {v : Value} (h : PRep w Ok l v) {k : Nat} (hk : k < l.length) :
    ∃ g cap a b c0 c1 c2 d0 d1 d2, v = .slice (some ⟨g, 0, none⟩) l.length cap ∧ l.length ≤ cap ∧ cap ≤ maxLen ∧ g < w.heap.size ∧ w.cell? ⟨g, k * 4, none⟩ = some (.int .u8 a) ∧ w.cell? ⟨g, k * 4 + 1, none⟩ = some (.string b) ∧ w.cell? ⟨g, k * 4 + 2, none⟩ = some (.slice c0 c1 c2) ∧ w.cell? ⟨g, k * 4 + 3, none⟩ = some (.slice d0 d1 d2) ∧
      BRep w Ok l[k] [.int .u8 a, .string b, .slice c0 c1 c2, .slice d0 d1 d2] := by
  cases h with
  | none => simp at hk
  | some _ g cap cur cs ho hg hc hm hs ht hr =>
    have he := hr.get k hk
    obtain ⟨a, b, c0, c1, c2, d0, d1, d2, e⟩ := he.shape
    obtain ⟨t0, t1, t2, t3⟩ := drop_take_get4 e
    rw [e] at he
    exact ⟨g, cap, a, b, c0, c1, c2, d0, d1, d2, rfl, hc, hm, (Array.getElem?_eq_some_iff.1 hg).1, rowCell hg ht t0, rowCell hg ht t1, rowCell hg ht t2, rowCell hg ht t3, he⟩
theorem PRep.len {w : World} {Ok : Nat → Prop} {l : List Bd} {v : Value} (h : PRep w Ok l v) : l.length ≤ maxLen := by
  cases h with
  | none => simp
  | some _ g cap cur cs ho hg hc hm hs ht hr => omega
theorem below_next {a b c : World} (h : Below a.heap.size a b) (k : Below b.heap.size b c) : Below a.heap.size a c := h.trans (k.mono h.size)
def WPostI (w : World) (e : Ending) (w' : World) : Prop := (∃ k : Int, e = .returned (.int .i64 k)) ∧ Below w.heap.size w w'
theorem tr_frame {w w' : World} (hb : Below w.heap.size w w') : ∀ b, True → b < w.heap.size → w'.heap[b]? = w.heap[b]? ∧ True := fun b _ hlt => ⟨hb.block b hlt, trivial⟩
theorem weight_of (k0 : Int) (n0 : ByteArray) (args : List Ex) (l : List Bd) (cs : List Value) (w : World) (h : BRep w (fun _ => True) (.mk k0 n0 args l) cs)
    (hI : ∀ k (hk : k < l.length) (ds : List Value) (w1 : World), BRep w1 (fun _ => True) l[k] ds → Calls Tryz.prog 71 #[.agg ds.toArray] w1 fun e w' => WPostI w1 e w') :
    Calls Tryz.prog 71 #[.agg cs.toArray] w fun e w' => WPostI w e w' := by
  cases h with
  | mk _ _ _ _ av pv ha hp =>
    obtain ⟨a0, a2, hav⟩ := ha.form
    subst hav
    obtain ⟨p0, p2, hpv⟩ := hp.form
    subst hpv
    have hlm := hp.len
    unfold maxLen at hlm
    obtain ⟨w0, hw0⟩ : ∃ w0, w0 = w.alloc (.cells #[.int .u8 k0, .string n0, .slice a0 args.length a2, .slice p0 l.length p2] 47) := ⟨_, rfl⟩
    have hb0 : Below w.heap.size w w0 := by rw [hw0]; exact (Below.refl _ _).alloc (Nat.le_refl _) _
    have hx0 : w0.heap[w.heap.size]? = some (.cells #[.int .u8 k0, .string n0, .slice a0 args.length a2, .slice p0 l.length p2] 47 (0, 0)) := by rw [hw0]; exact heap_alloc_new _ _
    have ha0 := ha.frame (tr_frame hb0)
    have hp0 := hp.frame (tr_frame hb0)
    have HSz := hide (size_all _ _ _ ha0)
    have HI := hide hI
    have HP := hide hp0
    have HX := hide hx0
    have HB := hide hb0
    obtain ⟨c0, c1, c2, c3, cf⟩ := box4 hx0
    have hz : w.heap.size < w0.heap.size := (Array.getElem?_eq_some_iff.1 hx0).1
    have hwe : w.alloc (.cells #[.int .u8 k0, .string n0, .slice a0 args.length a2, .slice p0 l.length p2] 47) = w0 := hw0.symm
    clear hI ha hp ha0 hp0 hx0 hb0 hw0
    go_enter Tryz.func71, Tryz.ntmps71
    go_upto_region 2 with (go_at_call 70; refine HSz.out.mono ?_; rintro e w1 ⟨⟨m, rfl⟩, rfl⟩)
    go_cut [0, 16] (fun _ b wx => w1 = wx ∧ ∃ c, b = .bool c)
    case first =>
      go_wp2_with fail
      all_goals
        go_meet
        case rel => exact ⟨rfl, _, rfl⟩
    case rest =>
      obtain ⟨rfl, c, rfl⟩ := hcut
      go_upto_if 16 with fail
      go_cut [3] (fun n wx => w1 = wx ∧ ∃ k : Int, n = .int .i64 k)
      case first =>
        go_wp2_with fail
        all_goals
          go_meet
          case rel => exact ⟨rfl, _, rfl⟩
      case rest =>
        obtain ⟨rfl, k, rfl⟩ := hcut
        go_wp2_with fail
        go_loopg [3, 4, 5] (l.length + 1) (fun g n i _ wr => Below w1.heap.size w1 wr ∧ ∃ (k : Int) (j : Nat), n = .int .i64 k ∧ i = .int .i64 j ∧ j ≤ l.length ∧ l.length - j < g)
        case atStart => exact ⟨Below.refl _ _, _, 0, rfl, rfl, Nat.zero_le _, by omega⟩
        case round =>
          obtain ⟨hbr, k, j, rfl, rfl, hj, hgj⟩ := hrel
          obtain ⟨c0, c1, c2, c3, cf⟩ := box4 ((hbr.block _ hz).trans HX.out)
          have hzr : w.heap.size < wr.heap.size := Nat.lt_of_lt_of_le hz hbr.size
          by_cases hjl : j < l.length
          · obtain ⟨g, cap', a, b, e0, e1, e2, f0, f1, f2, hq, hc1, hc2, hg, q0, q1, q2, q3, hA⟩ := part_elem (HP.out.frame (tr_frame hbr)) hjl
            cases hq
            go_wp2_with (go_at_call 71; refine (HI.out j hjl [.int .u8 a, .string b, .slice e0 e1 e2, .slice f0 f1 f2] _ hA).mono ?_; rintro e w2 ⟨⟨m, rfl⟩, hb2⟩)
            go_roundg (l.length - j)
            case measure => exact hgj
            case rel => exact ⟨below_next hbr hb2, _, j + 1, rfl, rfl, hjl, by omega⟩
          · go_wp2_with fail
            go_ret
            exact ⟨⟨_, rfl⟩, below_next HB.out hbr⟩
theorem weight_any : ∀ (N : Nat) (b : Bd) (cs : List Value) (w : World), hB b ≤ N → BRep w (fun _ => True) b cs → Calls Tryz.prog 71 #[.agg cs.toArray] w fun e w' => WPostI w e w'
  | 0, .mk k n args l, cs, w, hN, h => by simp [hB] at hN
  | N + 1, .mk k n args l, cs, w, hN, h => weight_of k n args l cs w h fun j hj ds w1 hd => weight_any N l[j] ds w1 (by have := hBL_get hj; simp [hB] at hN; omega) hd
theorem weight_all (b : Bd) (cs : List Value) (w : World) (h : BRep w (fun _ => True) b cs) : Calls Tryz.prog 71 #[.agg cs.toArray] w fun e w' => WPostI w e w' := weight_any _ b cs w (Nat.le_refl _) h
theorem CRepL.get {w : World} {Ok : Nat → Prop} : ∀ {l : List Cl} {cs : List Value} (_ : CRepL w Ok l cs) (k : Nat) (hk : k < l.length), CRep w Ok l[k] ((cs.drop (k * 7)).take 7)
  | _, _, .cons x l a b hx hl, 0, _ => by
    have h5 := hx.len
    have e : ((a ++ b).drop (0 * 7)).take 7 = a := by rw [Nat.zero_mul, List.drop_zero, ← h5, List.take_left]
    rw [e]; exact hx
  | _, _, .cons x l a b hx hl, k + 1, hk => by
    have h5 := hx.len
    have := CRepL.get hl k (by simpa using hk)
    have e : (a ++ b).drop ((k + 1) * 7) = b.drop (k * 7) := by rw [show (k + 1) * 7 = a.length + k * 7 by omega, ← List.drop_drop, List.drop_left]
    rw [e]
    simpa using this
theorem drop_take_get7 {es : List Value} {k : Nat} {a b c d e f g : Value} (h : (es.drop (k * 7)).take 7 = [a, b, c, d, e, f, g]) :
    es[k * 7]? = some a ∧ es[k * 7 + 1]? = some b ∧ es[k * 7 + 2]? = some c ∧ es[k * 7 + 3]? = some d ∧ es[k * 7 + 4]? = some e ∧ es[k * 7 + 5]? = some f ∧ es[k * 7 + 6]? = some g := by
  have hj : ∀ j, j < 7 → es[k * 7 + j]? = [a, b, c, d, e, f, g][j]? := fun j hj => by
    rw [← h, List.getElem?_take, if_pos hj, List.getElem?_drop]
  exact ⟨hj 0 (by omega), hj 1 (by omega), hj 2 (by omega), hj 3 (by omega), hj 4 (by omega), hj 5 (by omega), hj 6 (by omega)⟩
theorem clause_elem {w : World} {Ok : Nat → Prop} {base n cap : Nat} {ao : Option Addr} {l : List Cl} {cs : List Value} (h : w.ownsRow base 50 7 (.slice ao n cap) n cs) (hr : CRepL w Ok l cs) (hn : n = l.length) {k : Nat} (hk : k < l.length) :
    ∃ g y0 y1 y2 y3 y4 y5 y6 y7 y8 y9 y10 y11 y12 y13 y14, ao = some ⟨g, 0, none⟩ ∧ n ≤ cap ∧ cap ≤ maxLen ∧ g < w.heap.size ∧
      w.cell? ⟨g, k * 7, none⟩ = some (.string y0) ∧ w.cell? ⟨g, k * 7 + 1, none⟩ = some (.slice y1 y2 y3) ∧ w.cell? ⟨g, k * 7 + 2, none⟩ = some (.int .u8 y4) ∧ w.cell? ⟨g, k * 7 + 3, none⟩ = some (.string y5) ∧ w.cell? ⟨g, k * 7 + 4, none⟩ = some (.slice y6 y7 y8) ∧ w.cell? ⟨g, k * 7 + 5, none⟩ = some (.slice y9 y10 y11) ∧ w.cell? ⟨g, k * 7 + 6, none⟩ = some (.slice y12 y13 y14) ∧
      CRep w Ok l[k] [.string y0, .slice y1 y2 y3, .int .u8 y4, .string y5, .slice y6 y7 y8, .slice y9 y10 y11, .slice y12 y13 y14] := by
  rcases h.2 with ⟨_, h0⟩ | ⟨g, cap', cur, hv, _, hgg, hcap, hmx, hsz, htk⟩
  · omega
  · cases hv
    have he := hr.get k hk
    obtain ⟨y0, y1, y2, y3, y4, y5, y6, y7, y8, y9, y10, y11, y12, y13, y14, e⟩ := he.shape
    obtain ⟨t0, t1, t2, t3, t4, t5, t6⟩ := drop_take_get7 e
    rw [e] at he
    exact ⟨g, y0, y1, y2, y3, y4, y5, y6, y7, y8, y9, y10, y11, y12, y13, y14, rfl, hcap, hmx, (Array.getElem?_eq_some_iff.1 hgg).1, rowCell hgg htk t0, rowCell hgg htk t1, rowCell hgg htk t2, rowCell hgg htk t3, rowCell hgg htk t4, rowCell hgg htk t5, rowCell hgg htk t6, he⟩
theorem sizeC_any (c : Cl) (y0 : ByteArray) (y1 : Option Addr) (y2 y3 : Nat) (y4 : Int) (y5 : ByteArray) (y6 : Option Addr) (y7 y8 : Nat) (y9 : Option Addr) (y10 y11 : Nat) (y12 : Option Addr) (y13 y14 : Nat) (w : World)
    (h : CRep w (fun _ => True) c [.string y0, .slice y1 y2 y3, .int .u8 y4, .string y5, .slice y6 y7 y8, .slice y9 y10 y11, .slice y12 y13 y14]) :
    Calls Tryz.prog 41 #[.agg #[.string y0, .slice y1 y2 y3, .int .u8 y4, .string y5, .slice y6 y7 y8, .slice y9 y10 y11, .slice y12 y13 y14]] w fun e w' => WPostI w e w' := by
  obtain ⟨av, k, m, ba, bq, vv, hq, h1, h2, h3⟩ := h
  cases hq
  obtain ⟨w0, hw0⟩ : ∃ w0, w0 = w.alloc (.cells #[.string c.name, .slice y1 y2 y3, .int .u8 y4, .string y5, .slice y6 y7 y8, .slice y9 y10 y11, .slice y12 y13 y14] 50) := ⟨_, rfl⟩
  have hb0 : Below w.heap.size w w0 := by rw [hw0]; exact (Below.refl _ _).alloc (Nat.le_refl _) _
  have hx0 : w0.heap[w.heap.size]? = some (.cells #[.string c.name, .slice y1 y2 y3, .int .u8 y4, .string y5, .slice y6 y7 y8, .slice y9 y10 y11, .slice y12 y13 y14] 50 (0, 0)) := by rw [hw0]; exact heap_alloc_new _ _
  have hwe : w.alloc (.cells #[.string c.name, .slice y1 y2 y3, .int .u8 y4, .string y5, .slice y6 y7 y8, .slice y9 y10 y11, .slice y12 y13 y14] 50) = w0 := hw0.symm
  have HS : Hid (∀ w1, Below w0.heap.size w0 w1 → Calls Tryz.prog 70 #[.slice y1 y2 y3] w1 fun e w' => (∃ k : Int, e = .returned (.int .i64 k)) ∧ w' = w1) := fun w1 hb => size_all _ _ _ (h1.frame (tr_frame (below_next hb0 hb)))
  have HW : Hid (∀ w1, Below w0.heap.size w0 w1 → Calls Tryz.prog 71 #[.agg #[.int .u8 y4, .string y5, .slice y6 y7 y8, .slice y9 y10 y11]] w1 fun e w' => WPostI w1 e w') := fun w1 hb => weight_all _ [.int .u8 y4, .string y5, .slice y6 y7 y8, .slice y9 y10 y11] _ (h2.frame (tr_frame (below_next hb0 hb)))
  obtain ⟨c0, c1, c2, c3, c4, c5, c6, cf⟩ := box7 hx0
  have hz : w.heap.size < w0.heap.size := (Array.getElem?_eq_some_iff.1 hx0).1
  have HB := hide hb0
  have HX := hide hx0
  clear h1 h2 h3 hb0 hx0 hw0
  go_enter Tryz.func41, Tryz.ntmps41
  go_wp2_with fail
  go_region_with (first | (go_at_call 70; refine (HS.out _ (by first | exact hbq | exact (Below.refl _ _).drew | exact Below.refl _ _)).mono ?_; rintro e w1 ⟨⟨m, rfl⟩, rfl⟩) | (go_at_call 71; refine (HW.out _ (by first | exact (Below.refl _ _).drew | exact Below.refl _ _)).mono ?_; rintro e w1 ⟨⟨m, rfl⟩, hb1⟩; have hbq := below_next (Below.drew (Below.refl w0.heap.size w0)) hb1))
  all_goals
    go_wp2_with fail
    go_ret
    exact ⟨⟨_, rfl⟩, below_next HB.out hbq⟩
def baseZero : Array Value := #[.pointer none, .slice none 0 0, .bool false]
theorem box3b {w : World} {b : Nat} {x0 x1 x2 : Value} {T : TypeId} (h : w.heap[b]? = some (.cells #[x0, x1, x2] T (0, 0))) :
    w.cell? ⟨b, 0, none⟩ = some x0 ∧ w.cell? ⟨b, 1, none⟩ = some x1 ∧ w.cell? ⟨b, 2, none⟩ = some x2 ∧ ∀ j, w.frozen? ⟨b, j, none⟩ = false :=
  ⟨by rw [cell_of_block h]; rfl, by rw [cell_of_block h]; rfl, by rw [cell_of_block h]; rfl, fun j => by simp [World.frozen?, h]⟩
theorem below_set3 {n : Nat} {a w : World} (h : Below n a w) {b : Nat} (hb : n ≤ b) (x0 x1 x2 : Value) : Below n a (((w.setCell ⟨b, 0, none⟩ x0).setCell ⟨b, 1, none⟩ x1).setCell ⟨b, 2, none⟩ x2) := ((h.setCell hb x0).setCell hb x1).setCell hb x2
structure LdAt (w : World) (wr : World) (w3 : World) (x0 x1 : Value) (c : Bool) : Prop where
  below : Below w3.heap.size w3 wr
  box : wr.heap[w3.heap.size]? = some (.cells #[x0, x1, .bool c] 26 (0, 0))
def questEnd (toks : List Tok) : R Bd → Except (Int × Nat) (Bd × List ByteArray)
  | .error e => .error e
  | .ok (b, s) =>
    if isT (tk toks s.1) [46] then
      if (tk toks (s.1 + 1)).k = 101 then .ok (b, s.2) else .error (2, (tk toks (s.1 + 1)).a)
    else .error (2, (tk toks s.1).a)
def questS (s : ByteArray) : Except (Int × Nat) (Bd × List ByteArray) :=
  if 2000 < s.size then .error (1, 0)
  else match lexS s with
    | .error p => .error (2, p)
    | .ok l => questEnd (withEnd s l) (bodyS (withEnd s l) 8 (0, []))
def QuestPost (s : ByteArray) (w : World) (e : Ending) (w' : World) : Prop :=
  Below w.heap.size w w' ∧
  match questS s with
  | .error (er, a) => e = .returned (.tuple #[.agg clauseZero, .int .i64 er, .int .i64 a]) ∧ er ≠ 0
  | .ok (b, vars) => ∃ k m b0 b1 b2 p0 p1 p2 v0 v1 v2, e = .returned (.tuple #[.agg #[.string ByteArray.empty, .slice none 0 0, .int .u8 k, .string m, .slice b0 b1 b2, .slice p0 p1 p2, .slice v0 v1 v2], .int .i64 0, .int .i64 (-1)]) ∧
      BRep w' (fun x => w.heap.size ≤ x) b [.int .u8 k, .string m, .slice b0 b1 b2, .slice p0 p1 p2] ∧ VarV w' (fun x => w.heap.size ≤ x) vars (.slice v0 v1 v2) ∧ vars.length ≤ 12
theorem questPost_err {s : ByteArray} {w w' : World} {er : Int} {a : Nat} (ht : questS s = .error (er, a)) (h0 : er ≠ 0) (hb : Below w.heap.size w w') : QuestPost s w (.returned (.tuple #[.agg clauseZero, .int .i64 er, .int .i64 a])) w' := by
  unfold QuestPost; rw [ht]; exact ⟨hb, rfl, h0⟩
theorem drew_heap (W : World) : W.drew.heap = W.heap := rfl
theorem questPost_ok {s : ByteArray} {w w4 : World} {b : Bd} {vars : List ByteArray} {k : Int} {m : ByteArray} {b0 p0 v0 : Option Addr} {b1 b2 p1 p2 v1 v2 : Nat} {y0 y1 y2 y3 y4 y5 y6 : Value} (ht : questS s = .ok (b, vars)) (hb : Below w.heap.size w w4)
    (hB : BRep w4 (fun x => w.heap.size < x) b [.int .u8 k, .string m, .slice b0 b1 b2, .slice p0 p1 p2]) (hV : VarV w4 (fun x => w.heap.size < x) vars (.slice v0 v1 v2)) (hl : vars.length ≤ 12) :
    QuestPost s w (.returned (.tuple #[.agg #[.string ByteArray.empty, .slice none 0 0, .int .u8 k, .string m, .slice b0 b1 b2, .slice p0 p1 p2, .slice v0 v1 v2], .int .i64 0, .int .i64 (-1)])) (set7 w4 w.heap.size y0 y1 y2 y3 y4 y5 y6).drew := by
  have hB1 : Below w.heap.size w (set7 w4 w.heap.size y0 y1 y2 y3 y4 y5 y6).drew := (below_set7 hb (Nat.le_refl _) y0 y1 y2 y3 y4 y5 y6).drew
  have hf : ∀ x, w.heap.size < x → x < w4.heap.size → (set7 w4 w.heap.size y0 y1 y2 y3 y4 y5 y6).drew.heap[x]? = w4.heap[x]? ∧ w.heap.size ≤ x := fun x hx _ =>
    ⟨by rw [drew_heap]; exact set7_other _ _ _ _ _ _ _ _ _ _ (by omega), Nat.le_of_lt hx⟩
  generalize (set7 w4 w.heap.size y0 y1 y2 y3 y4 y5 y6).drew = W at *
  unfold QuestPost
  rw [ht]
  exact ⟨hB1, _, _, _, _, _, _, _, _, _, _, _, rfl, hB.frame hf, hV.frame hf, hl⟩
def PS.point (st : PS) (toks : List Tok) : PS := if st.err = 0 then (if isB st (tk toks st.i) (B [46]) then st.pass else st.fault 2 (tk toks st.i).a) else st
theorem quest_cases {toks : List Tok} {w1 w2 : World} {bp : Nat} {vv2 : Value} {st st2 : PS} {cs : List Value} {r : R Bd} {T : Except (Int × Nat) (Bd × List ByteArray)} (hok : BrOk r st w1 w2 bp vv2 st2 cs) (ht : T = questEnd toks r) :
    (∃ er a, T = .error (er, a) ∧ ((st2.point toks).fin (tk toks (st2.point toks).i)).err = er ∧ ((st2.point toks).fin (tk toks (st2.point toks).i)).at_ = (a : Nat) ∧ er ≠ 0) ∨
    (∃ x, T = .ok (x, st2.vars) ∧ (st2.point toks).fin (tk toks (st2.point toks).i) = st2.pass ∧ st2.err = 0 ∧ BRep w2 (okS w1 bp vv2) x cs ∧ st2.vars.length ≤ 12) := by
  by_cases e2 : st2.err = 0
  · obtain ⟨x, hr, hi, hv, hx⟩ := hok.ok e2
    rw [hr] at ht
    unfold questEnd at ht
    dsimp only at ht
    cases hp : isT (tk toks st2.i) [46] with
    | true =>
      have hpt : st2.point toks = st2.pass := by unfold PS.point; rw [if_pos e2, isB_eq e2 hp]; rfl
      rw [hp, if_pos rfl] at ht
      rw [hpt]
      by_cases hk : (tk toks (st2.i + 1)).k = 101
      · rw [if_pos hk] at ht
        have : st2.pass.fin (tk toks st2.pass.i) = st2.pass := by unfold PS.fin; rw [if_neg (by rintro ⟨_, q⟩; exact q hk)]
        exact .inr ⟨x, ht, this, e2, hx, hv⟩
      · rw [if_neg hk] at ht
        have : st2.pass.fin (tk toks st2.pass.i) = st2.pass.fault 2 (tk toks st2.pass.i).a := by unfold PS.fin; rw [if_pos ⟨e2, hk⟩]
        rw [this]
        exact .inl ⟨2, (tk toks (st2.i + 1)).a, ht, (fault_new (st := st2.pass) e2).1, (fault_new (st := st2.pass) e2).2, by decide⟩
    | false =>
      have hpt : st2.point toks = st2.fault 2 (tk toks st2.i).a := by unfold PS.point; rw [if_pos e2, isB_eq e2 hp]; rfl
      rw [hp, if_neg (by simp)] at ht
      have hfe := (fault_new (e := 2) (a := (tk toks st2.i).a) e2)
      have : (st2.point toks).fin (tk toks (st2.point toks).i) = st2.fault 2 (tk toks st2.i).a := by
        rw [hpt]; unfold PS.fin; rw [if_neg (by rintro ⟨q, _⟩; rw [hfe.1] at q; exact absurd q (by decide))]
      rw [this]
      exact .inl ⟨2, (tk toks st2.i).a, ht, hfe.1, hfe.2, by decide⟩
  · obtain ⟨a, hr, hat⟩ := hok.err e2
    rw [hr] at ht
    have hpt : st2.point toks = st2 := by unfold PS.point; rw [if_neg e2]
    have : st2.fin (tk toks st2.i) = st2 := by unfold PS.fin; rw [if_neg (by rintro ⟨q, _⟩; exact e2 q)]
    rw [hpt, this]
    exact .inl ⟨st2.err, a, ht, rfl, hat, e2⟩
theorem question_any (s : ByteArray) (w : World) (hs : s.size ≤ 32768) : Calls Tryz.prog 24 #[.string s] w fun e w' => QuestPost s w e w' := by
  have HBe := hide (begun_any s (w.alloc (.cells clauseZero 50)) hs)
  by_cases h2 : 2000 < s.size
  · have HB2 : Hid (Calls Tryz.prog 50 #[.string s] (w.alloc (.cells clauseZero 50)) fun e w' => Below (w.alloc (.cells clauseZero 50)).heap.size (w.alloc (.cells clauseZero 50)) w' ∧ e = .returned (.tuple #[.pointer none, .int .i64 1, .int .i64 0])) :=
      HBe.out.mono fun e w' he => by unfold BegunPost at he; rw [if_pos h2] at he; exact he
    have HT : Hid (questS s = .error (1, 0)) := by unfold Hid questS; rw [if_pos h2]
    go_enter Tryz.func24, Tryz.ntmps24
    go_wp2_with (go_at_call 50; refine HB2.out.mono ?_; rintro e w1 ⟨hb, rfl⟩; obtain ⟨c0, c1, c2, c3, c4, c5, c6, cf⟩ := box7 (termBox hb))
    exact bodyPost_ret (v := .tuple #[.agg clauseZero, .int .i64 1, .int .i64 0]) (by simp [results, Tryz.results24, go_sem, c0, c1, c2, c3, c4, c5, c6]; rfl) rfl (questPost_err HT.out (by decide) (below_set7 (termBelow hb) (Nat.le_refl _) _ _ _ _ _ _ _))
  · cases hl : lexS s with
    | error p =>
      have HB2 : Hid (Calls Tryz.prog 50 #[.string s] (w.alloc (.cells clauseZero 50)) fun e w' => Below (w.alloc (.cells clauseZero 50)).heap.size (w.alloc (.cells clauseZero 50)) w' ∧ e = .returned (.tuple #[.pointer none, .int .i64 2, .int .i64 p])) :=
        HBe.out.mono fun e w' he => by unfold BegunPost at he; rw [if_neg h2, hl] at he; exact he
      have HT : Hid (questS s = .error (2, p)) := by unfold Hid questS; rw [if_neg h2, hl]
      clear hl
      go_enter Tryz.func24, Tryz.ntmps24
      go_wp2_with (go_at_call 50; refine HB2.out.mono ?_; rintro e w1 ⟨hb, rfl⟩; obtain ⟨c0, c1, c2, c3, c4, c5, c6, cf⟩ := box7 (termBox hb))
      exact bodyPost_ret (v := .tuple #[.agg clauseZero, .int .i64 2, .int .i64 p]) (by simp [results, Tryz.results24, go_sem, c0, c1, c2, c3, c4, c5, c6]; rfl) rfl (questPost_err HT.out (by decide) (below_set7 (termBelow hb) (Nat.le_refl _) _ _ _ _ _ _ _))
    | ok l =>
      have hg := good_toks (by omega) hl
      have HB2 : Hid (Calls Tryz.prog 50 #[.string s] (w.alloc (.cells clauseZero 50)) fun e w' => Below (w.alloc (.cells clauseZero 50)).heap.size (w.alloc (.cells clauseZero 50)) w' ∧ ∃ bp lv, e = .returned (.tuple #[.pointer (some ⟨bp, 0, none⟩), .int .i64 0, .int .i64 (-1)]) ∧ (w.alloc (.cells clauseZero 50)).heap.size ≤ bp ∧ PIn w' bp (withEnd s l) lv (.slice none 0 0) ⟨0, [], 0, 0, 0⟩ ∧ (∀ b, lv.ownBlock = some b → (w.alloc (.cells clauseZero 50)).heap.size ≤ b)) :=
        HBe.out.mono fun e w' he => by unfold BegunPost at he; rw [if_neg h2, hl] at he; exact he
      have HT : Hid (questS s = questEnd (withEnd s l) (bodyS (withEnd s l) 8 (0, []))) := by
        unfold Hid questS; rw [if_neg h2, hl]
      clear hl
      obtain ⟨toks, htk⟩ : ∃ t, t = withEnd s l := ⟨_, rfl⟩
      rw [← htk] at hg HB2 HT
      clear htk
      have HX := hide (body_at hg)
      go_enter Tryz.func24, Tryz.ntmps24
      go_wp2_with (go_at_call 50; refine HB2.out.mono ?_; rintro e w1 ⟨hb, bp, lv, rfl, hbp, hP1, hlv⟩)
      refine (HX.out _ _ _ _ _ hP1 rfl (by simp) rfl).mono ?_
      rintro e w2 ⟨cs, vv2, st2, rfl, ⟨z0, z1, z2, z3, z4, z5, z6, z7, rfl⟩, hP2, hfr2, hdp2, hok2⟩
      have hP2a := hP2.alloc (.cells #[.int .u8 z0, .string z1, .slice z2 z3 z4, .slice z5 z6 z7] 47)
      have hfa := (Fr.refl bp vv2 w2).alloc (.cells #[.int .u8 z0, .string z1, .slice z2 z3 z4, .slice z5 z6 z7] 47)
      have p4 := hP2a.c4
      have hbz2 := hP2a.lt_size
      have HC := hide (quest_cases hok2 HT.out)
      clear hok2 HT
      go_upto_if 26 with fail
      go_cut [] (fun wx => PIn wx bp toks lv vv2 (st2.point toks) ∧ Fr bp vv2 vv2 (w2.alloc (.cells #[.int .u8 z0, .string z1, .slice z2 z3 z4, .slice z5 z6 z7] 47)) wx)
      case first =>
        by_cases e2 : st2.err = 0
        · rw [e2] at p4
          have HPt : Hid (st2.point toks = if isB st2 (tk toks st2.i) (B [46]) then st2.pass else st2.fault 2 (tk toks st2.i).a) := by unfold Hid PS.point; rw [if_pos e2]
          go_wp2_with fail
          refine (must_any hP2a hg (B [46])).mono ?_
          rintro e w3 ⟨rfl, hP3, hfr3⟩
          go_wp2_with fail
          go_meet
          case rel => rw [HPt.out]; exact ⟨hP3, hfr3⟩
        · have e2' : (st2.err == 0) = false := by simpa using e2
          have HPt : Hid (st2.point toks = st2) := by unfold Hid PS.point; rw [if_neg e2]
          go_wp2_with fail
          go_meet
          case rel => rw [HPt.out]; exact ⟨hP2a, Fr.refl _ _ _⟩
      case rest =>
        obtain ⟨hP3, hfr3⟩ := hcut
        go_wp2_with fail
        refine (finished_any hP3 hg).mono ?_
        rintro e w4 ⟨rfl, hP4, hfr4⟩
        have hfr24' := hfr3.trans hfr4
        have hfr24 := hfa.trans hfr24'
        have hfr14 := hfr2.trans hfr24
        have hz1 : w.heap.size + 1 ≤ w1.heap.size := by have := hb.size; simpa using this
        have hbp' : w.heap.size + 1 ≤ bp := by simpa using hbp
        have hbox : w4.heap[w.heap.size]? = some (.cells clauseZero 50 (0, 0)) := by
          rw [hfr14.block _ (by omega) (by omega) (by simp [Value.ownBlock])]; exact termBox hb
        obtain ⟨c0, c1, c2, c3, c4, c5, c6, cf⟩ := box7 hbox
        have hbw : Below w.heap.size w w4 := (termBelow hb).trans (hfr14.below (by omega) (by simp [Value.ownBlock]) (by omega))
        have q4 := hP4.c4
        have q5 := hP4.c5
        have q2 := hP4.c2
        have hbpz := hP4.lt_size
        rcases HC.out with ⟨er, a, ht, s1, s2, s3⟩ | ⟨x, ht, s1, s2, s3, s4⟩
        · rw [s1] at q4
          rw [s2] at q5
          have s3' : (er == 0) = false := by simpa using s3
          have HTT := hide ht
          clear ht HC
          go_wp2_with fail
          go_region
          go_wp2_with fail
          exact bodyPost_ret (v := .tuple #[.agg clauseZero, .int .i64 er, .int .i64 a]) (by simp [results, Tryz.results24, go_sem, c0, c1, c2, c3, c4, c5, c6]; rfl) rfl (questPost_err HTT.out s3 (Below.drew (below_set7 hbw (Nat.le_refl _) _ _ _ _ _ _ _)))
        · have S1 := hide s1
          rw [s1] at q4
          have HTT := hide ht
          have s2' : (st2.pass.err == 0) = true := by show (st2.err == 0) = true; simpa using s2
          have q4' : w4.cell? ⟨bp, 4, none⟩ = some (.int .i64 0) := by rw [q4]; show some (Value.int .i64 st2.err) = _; rw [s2]
          obtain ⟨k0, k1, k2, k3, kf⟩ := box4 (tok_kept hP2 hfr24')
          have hk4 : w2.heap.size < w4.heap.size := World.block_lt_of_cell? w4 _ k0
          have hPv : w4.ownsRow 0 9 1 vv2 st2.vars.length (st2.vars.map Value.string) := by
            have := hP4.vars
            rw [s1] at this
            exact this
          obtain ⟨ao, cap, hao⟩ := row_form hPv
          have HV : Hid (VarV w4 (fun x => w.heap.size < x) st2.vars vv2) := by
            have h9 := hP4.varV (Ok := fun x => w.heap.size < x) (fun b e => by
              rcases hfr14.vnew b e with q | q
              · simp [Value.ownBlock] at q
              · omega)
            rw [s1] at h9
            exact h9
          have HBR : Hid (BRep w4 (fun x => w.heap.size < x) x [.int .u8 z0, .string z1, .slice z2 z3 z4, .slice z5 z6 z7]) := BRep.frame (fun b hb _ => ⟨rfl, by have := hb.1; omega⟩) (s3.go hfr24)
          have hz4 : w.heap.size < w4.heap.size := World.block_lt_of_cell? w4 _ c0
          clear ht HC s1 q4 s3 hPv
          subst hao
          go_wp2_with fail
          go_region
          go_wp2_with fail
          exact bodyPost_ret (v := .tuple #[.agg #[.string ByteArray.empty, .slice none 0 0, .int .u8 z0, .string z1, .slice z2 z3 z4, .slice z5 z6 z7, .slice ao st2.vars.length cap], .int .i64 0, .int .i64 (-1)]) (by simp [results, Tryz.results24, go_sem, c0, c1, c2, c3, c4, c5, c6]; rfl) rfl
            (questPost_ok HTT.out hbw HBR.out HV.out s4)
end Go.Proofs.YtodpkdajbnceoaaGreatDoor

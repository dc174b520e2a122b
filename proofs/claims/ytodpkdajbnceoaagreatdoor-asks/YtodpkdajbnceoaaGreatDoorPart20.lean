import Derived.Test.YtodpkdajbnceoaaGreatDoorPart19
set_option linter.all false
set_option maxHeartbeats 4000000
set_option maxRecDepth 100000
namespace Go.Proofs.YtodpkdajbnceoaaGreatDoor
open Go.RowKit
def cutOf (ls : List Gl) (t : Int) (n : Nat) : Prop := t = -1 ∨ ∃ (i : Nat) (g : Gl), t = i ∧ ls[i]? = some g ∧ g.cut ≤ n
structure Chain (s : Wk) : Prop where
  ls : ∀ g ∈ s.ls, cutOf s.ls g.rest g.cut
  todo : cutOf s.ls s.todo s.bk.length
  bk : ∀ (n : Nat) (a : Ag), s.bk[n]? = some a → cutOf s.ls a.todo n
theorem cutOf.mono {ls : List Gl} {t : Int} {n m : Nat} (h : cutOf ls t n) (hn : n ≤ m) : cutOf ls t m := by
  rcases h with h | ⟨i, g, h1, h2, h3⟩
  · exact .inl h
  · exact .inr ⟨i, g, h1, h2, Nat.le_trans h3 hn⟩
theorem cutOf.push {ls : List Gl} {t : Int} {n : Nat} (h : cutOf ls t n) (x : List Gl) : cutOf (ls ++ x) t n := by
  rcases h with h | ⟨i, g, h1, h2, h3⟩
  · exact .inl h
  · exact .inr ⟨i, g, h1, by rw [List.getElem?_append_left (List.getElem?_eq_some_iff.1 h2).1]; exact h2, h3⟩
theorem cutOf.last {ls : List Gl} {x : Gl} {n : Nat} (h : x.cut ≤ n) : cutOf (ls ++ [x]) (ls.length : Nat) n := .inr ⟨ls.length, x, rfl, by simp, h⟩
theorem Chain.push {s : Wk} (h : Chain s) {x : Gl} (hx : cutOf s.ls x.rest x.cut) : Chain { s with ls := s.ls ++ [x] } :=
  ⟨fun g hg => by
      rcases List.mem_append.1 hg with hg | hg
      · exact (h.ls g hg).push _
      · rw [List.mem_singleton.1 hg]; exact hx.push _,
    h.todo.push _, fun n a ha => (h.bk n a ha).push _⟩
theorem Chain.todoS {s : Wk} (h : Chain s) {t : Int} (ht : cutOf s.ls t s.bk.length) : Chain { s with todo := t } := ⟨h.ls, ht, h.bk⟩
theorem Chain.come {s : Wk} (h : Chain s) {a : Ag} (ha : cutOf s.ls a.todo s.bk.length) : Chain { s with bk := s.bk ++ [a] } :=
  ⟨h.ls, h.todo.mono (by simp), fun n b hb => by
    by_cases hn : n < s.bk.length
    · exact h.bk n b (by rw [← hb]; exact (List.getElem?_append_left hn).symm)
    · have hl : n < (s.bk ++ [a]).length := (List.getElem?_eq_some_iff.1 hb).1
      have e : n = s.bk.length := by simp at hl; omega
      have : b = a := by
        have hb' : (s.bk ++ [a])[n]? = some b := hb
        rw [e] at hb'; simpa using hb'.symm
      rw [this, e]; exact ha⟩
theorem Chain.heap {s : Wk} (h : Chain s) (x : Hp) : Chain { s with h := x } := ⟨h.ls, h.todo, h.bk⟩
theorem Chain.take {s : Wk} (h : Chain s) {n : Nat} {t : Int} (hn : n ≤ s.bk.length) (ht : cutOf s.ls t n) : Chain { s with todo := t, bk := s.bk.take n } :=
  ⟨h.ls, by show cutOf s.ls t (s.bk.take n).length; rw [List.length_take, Nat.min_eq_left hn]; exact ht, fun k a ha => by
    have ha' : (s.bk.take n)[k]? = some a := ha
    have hk : k < n := by
      have := (List.getElem?_eq_some_iff.1 ha').1
      rw [List.length_take] at this; omega
    rw [List.getElem?_take, if_pos hk] at ha'
    exact h.bk k a ha'⟩
def StepZ (H0 : Nat) (w : World) (wk hb : Nat) (most : Int) (fx : Fix) (s : Wk) (e : Ending) (w' : World) : Prop :=
  ∃ (r : Bool) (s' : Wk) (V' : _root_.Fin 6 → Value) (avs' : List Value) (lv' kv' : Value), e = .returned (.bool r) ∧ WkIn H0 w' wk hb V' avs' most lv' kv' fx s' ∧ Below H0 w w' ∧ Later s.h s'.h 2002 (max (s.h.cost + 3) (9 * most + 2)) ∧ s.h.cost + 1 ≤ s'.h.cost ∧ s'.ls.length ≤ s.ls.length + 3001 ∧ s'.bk.length ≤ s.bk.length + 1 ∧ Chain s' ∧ ∀ g, g ∈ s.ls → g ∈ s'.ls
theorem Later.count {h : Hp} {M : Int} (k : Nat) (hM : h.cost + 1 ≤ M) : Later h { h with cost := h.cost + 1 } k M := ⟨List.prefix_refl _, by simp, by show h.cost ≤ h.cost + 1; omega, hM, Nat.le_refl _⟩
theorem KFr.setW (wk j : Nat) (lv kv v : Value) (w : World) : KFr wk lv lv kv kv w (w.setCell ⟨wk, j, none⟩ v) :=
  ⟨fun _ _ h _ _ => Below.heap_setCell _ _ _ _ h, ((Below.refl wk w).setCell (p := ⟨wk, j, none⟩) (Nat.le_refl _) v).size, fun _ h => .inl h, fun _ h => .inl h⟩
theorem BRep.move {w w' : World} {H0 : Nat} {b : Bd} {cs : List Value} (h : BRep w (fun b => b < H0) b cs) (hB : ∀ b, b < H0 → w'.heap[b]? = w.heap[b]?) : BRep w' (fun b => b < H0) b cs := h.frame (fun b q _ => ⟨hB b q, q⟩)
theorem PRep.okg {w : World} {Ok : Nat → Prop} {l : List Bd} {g n cap : Nat} (h : PRep w Ok l (.slice (Option.some ⟨g, 0, Option.none⟩) n cap)) : Ok g := by
  cases h with
  | some _ _ _ _ _ ho => exact ho
section
variable {H0 : Nat} {w W W4 : World} {wk hb : Nat} {V : _root_.Fin 6 → Value} {avs : List Value} {most : Int} {lv kv : Value} {fx : Fix} {s : Wk}
theorem Chain.at (h : Chain s) {t : Nat} {g : Gl} (hto : s.todo = t) (ht : s.ls[t]? = some g) : g.cut ≤ s.bk.length := by
  rcases h.todo with e | ⟨i, g', e, h2, h3⟩
  · rw [hto] at e; omega
  · have : i = t := by rw [hto] at e; omega
    subst this
    rw [ht] at h2
    cases h2
    exact h3
structure Run (H0 : Nat) (W4 W : World) (wk hb : Nat) (V : _root_.Fin 6 → Value) (avs : List Value) (most : Int) (fx : Fix) (lv0 lv kv0 kv : Value) (s0 s : Wk) (a b : Nat) : Prop where
  h : WkIn H0 W wk hb V avs most lv kv fx s
  B : Below H0 W4 W
  K : KFr wk lv0 lv kv0 kv W4 W
  C : Chain s
  cuts : ∀ t n, cutOf s0.ls t n → cutOf s.ls t n
  mem : ∀ g, g ∈ s0.ls → g ∈ s.ls
  hh : s.h = s0.h
  l : s.ls.length ≤ s0.ls.length + a
  b1 : s0.bk.length ≤ s.bk.length
  b2 : s.bk.length ≤ s0.bk.length + b
  todo : s.todo = s0.todo
theorem Run.begin (h : WkIn H0 W4 wk hb V avs most lv kv fx s) (C : Chain s) : Run H0 W4 W4 wk hb V avs most fx lv lv kv kv s s 0 0 :=
  ⟨h, Below.refl _ _, KFr.refl _ _ _ _, C, fun _ _ q => q, fun _ q => q, rfl, Nat.le_refl _, Nat.le_refl _, Nat.le_refl _, rfl⟩
theorem Run.drew {lv0 kv0 : Value} {s0 : Wk} {a b : Nat} (R : Run H0 W4 W wk hb V avs most fx lv0 lv kv0 kv s0 s a b) : Run H0 W4 W.drew wk hb V avs most fx lv0 lv kv0 kv s0 s a b :=
  ⟨R.h.below (Below.refl _ _).drew, R.B.drew, R.K.trans (KFr.of_below (Below.refl _ _).drew), R.C, R.cuts, R.mem, R.hh, R.l, R.b1, R.b2, R.todo⟩
theorem Run.pushed {lv0 kv0 lv' : Value} {s0 : Wk} {a b : Nat} {x : Gl} {w' : World} (R : Run H0 W4 W wk hb V avs most fx lv0 lv kv0 kv s0 s a b) (h : WkIn H0 w' wk hb V avs most lv' kv fx { s with ls := s.ls ++ [x] }) (hB : Below H0 W w') (hK : KFr wk lv lv' kv kv W w') (hx : cutOf s.ls x.rest x.cut) :
    Run H0 W4 w' wk hb V avs most fx lv0 lv' kv0 kv s0 { s with ls := s.ls ++ [x] } (a + 1) b :=
  ⟨h, R.B.trans hB, R.K.trans hK, R.C.push hx, fun t n q => (R.cuts t n q).push _, fun g q => List.mem_append_left _ (R.mem g q), R.hh, by have := R.l; simp; omega, R.b1, R.b2, R.todo⟩
theorem push_run {lv0 kv0 : Value} {s0 : Wk} {a b : Nat} (R : Run H0 W4 W wk hb V avs most fx lv0 lv kv0 kv s0 s a b) {g : Gl} (hg : g ∈ s0.ls) (hs : s0.ls.length + a ≤ 1000000000) {x : Bd} {cs : List Value} (hb' : BRep W4 (fun b => b < H0) x cs) (hbo : bdOk g.vs.length x) {vo : Option Addr} {vc : Nat} (hvv : g.vv = .slice vo g.vs.length vc) (cut : Nat) (rest : Int) (hcr : cutOf s.ls rest cut) :
    Calls Tryz.prog 58 #[.pointer (some ⟨wk, 0, none⟩), .agg cs.toArray, .slice vo g.vs.length vc, .int .i64 cut, .int .i64 rest] W fun e w' => e = .returned (.int .i64 s.ls.length) ∧
      ∃ lv' s', Run H0 W4 w' wk hb V avs most fx lv0 lv' kv0 kv s0 s' (a + 1) b ∧ (∀ n, cut ≤ n → cutOf s'.ls s.ls.length n) ∧ (∀ t n, cutOf s.ls t n → cutOf s'.ls t n) := by
  rw [← hvv]
  refine (push_z R.h (Nat.le_trans R.l hs) x cs (hb'.move (fun b q => R.B.block b q)) g.vv g.vs (R.h.gl g (R.mem g hg)).row hbo cut rest).mono ?_
  rintro e w' ⟨rfl, lv', h1, h2, h3⟩
  exact ⟨rfl, lv', _, R.pushed h1 h2 h3 hcr, fun n hn => cutOf.last hn, fun t n q => q.push _⟩
theorem cutting_run {lv0 kv0 : Value} {s0 : Wk} {a b : Nat} (R : Run H0 W4 W wk hb V avs most fx lv0 lv kv0 kv s0 s a b) (hs : s0.ls.length + a ≤ 1000000000) (cut : Nat) (rest : Int) (hcr : cutOf s.ls rest cut) :
    Calls Tryz.prog 133 #[.pointer (some ⟨wk, 0, none⟩), .int .i64 cut, .int .i64 rest] W fun e w' => e = .returned (.int .i64 s.ls.length) ∧
      ∃ lv' s', Run H0 W4 w' wk hb V avs most fx lv0 lv' kv0 kv s0 s' (a + 1) b ∧ (∀ n, cut ≤ n → cutOf s'.ls s.ls.length n) ∧ (∀ t n, cutOf s.ls t n → cutOf s'.ls t n) := by
  refine (cutting_z R.h (Nat.le_trans R.l hs) cut rest).mono ?_
  rintro e w' ⟨rfl, lv', h1, h2, h3⟩
  exact ⟨rfl, lv', _, R.pushed h1 h2 h3 hcr, fun n hn => cutOf.last hn, fun t n q => q.push _⟩
theorem push_fail {lv0 kv0 : Value} {s0 : Wk} {a b : Nat} (R : Run H0 W4 W wk hb V avs most fx lv0 lv kv0 kv s0 s a b) (hs : s0.ls.length + a ≤ 1000000000) :
    Calls Tryz.prog 58 #[.pointer (some ⟨wk, 0, none⟩), .agg #[.int .u8 103, .string ({ data := #[102, 97, 105, 108] } : ByteArray), .slice none 0 0, .slice none 0 0], .slice none 0 0, .int .i64 0, .int .i64 (-1)] W fun e w' => e = .returned (.int .i64 s.ls.length) ∧
      ∃ lv' s', Run H0 W4 w' wk hb V avs most fx lv0 lv' kv0 kv s0 s' (a + 1) b ∧ (∀ n, 0 ≤ n → cutOf s'.ls s.ls.length n) ∧ (∀ t n, cutOf s.ls t n → cutOf s'.ls t n) := by
  refine (push_z R.h (Nat.le_trans R.l hs) (.mk 103 ({ data := #[102, 97, 105, 108] } : ByteArray) [] []) [.int .u8 103, .string ({ data := #[102, 97, 105, 108] } : ByteArray), .slice none 0 0, .slice none 0 0] (.mk _ _ _ _ _ _ (.inl ⟨rfl, rfl⟩) .none) (.slice none 0 0) [] ⟨World.ownsRow_nil _ _ _ _, by simp [Value.ownBlock], by simp, by simp⟩ ⟨trivial, by simp [szL], .inr (.inr (.inr (.inr (.inr rfl)))), by simp, trivial⟩ 0 (-1)).mono ?_
  rintro e w' ⟨rfl, lv', h1, h2, h3⟩
  exact ⟨rfl, lv', _, R.pushed h1 h2 h3 (.inl rfl), fun n hn => cutOf.last hn, fun t n q => q.push _⟩
theorem come_run {lv0 kv0 : Value} {s0 : Wk} {a b : Nat} (R : Run H0 W4 W wk hb V avs most fx lv0 lv kv0 kv s0 s a b) (hs : s0.bk.length + b ≤ 1000000000) (todo : Int) (ht : cutOf s.ls todo s0.bk.length) :
    Calls Tryz.prog 132 #[.pointer (some ⟨wk, 0, none⟩), .int .i64 todo] W fun e w' => e = .returned (.tuple #[]) ∧
      ∃ kv' s', Run H0 W4 w' wk hb V avs most fx lv0 lv kv0 kv' s0 s' a (b + 1) ∧ s'.ls = s.ls := by
  refine (come_z R.h (Nat.le_trans R.b2 hs) todo).mono ?_
  rintro e w' ⟨rfl, kv', h1, h2, h3⟩
  exact ⟨rfl, kv', _, ⟨h1, R.B.trans h2, R.K.trans h3, R.C.come (ht.mono R.b1), R.cuts, R.mem, R.hh, R.l, by have := R.b1; simp; omega, by have := R.b2; simp; omega, R.todo⟩, rfl⟩
theorem Run.todoS {lv0 kv0 : Value} {s0 : Wk} {a b : Nat} (R : Run H0 W4 W wk hb V avs most fx lv0 lv kv0 kv s0 s a b) (t : Int) (ht : cutOf s.ls t s0.bk.length) :
    Run H0 W4 (W.setCell ⟨wk, 3, none⟩ (.int .i64 t)) wk hb V avs most fx lv0 lv kv0 kv { s0 with todo := t } { s with todo := t } a b :=
  ⟨(R.h.todoS t).1, R.B.trans (R.h.todoS t).2, R.K.trans (KFr.setW _ _ _ _ _ _), R.C.todoS (ht.mono R.b1), R.cuts, R.mem, R.hh, R.l, R.b1, R.b2, rfl⟩
theorem Run.fin {lv0 kv0 : Value} {s0 : Wk} {a b : Nat} {w : World} {S : Wk} (R : Run H0 W4 W wk hb V avs most fx lv0 lv kv0 kv s0 s a b) (hB : Below H0 w W4) (h0 : s0.h = { S.h with cost := S.h.cost + 1 }) (hl : s0.ls = S.ls) (hk : s0.bk = S.bk) (ha : a ≤ 3001) (hb1 : b ≤ 1) :
    StepZ H0 w wk hb most fx S (.returned (.bool true)) W := by
  refine ⟨true, _, _, _, _, _, rfl, R.h, hB.trans R.B, ?_, ?_, ?_, ?_, R.C, fun g hg => R.mem g (by rw [hl]; exact hg)⟩
  · rw [R.hh, h0]; exact Later.count _ (by omega)
  · rw [R.hh, h0]; exact Int.le_refl _
  · have := R.l; rw [hl] at this; omega
  · have := R.b2; rw [hk] at this; omega
theorem Run.done {lv0 kv0 : Value} {s0 : Wk} {a b : Nat} {w : World} {S : Wk} (R : Run H0 W4 W wk hb V avs most fx lv0 lv kv0 kv s0 s a b) (t : Int) (ht : cutOf s.ls t s0.bk.length) (hB : Below H0 w W4) (h0 : s0.h = { S.h with cost := S.h.cost + 1 }) (hl : s0.ls = S.ls) (hk : s0.bk = S.bk) (ha : a ≤ 3001) (hb1 : b ≤ 1) :
    StepZ H0 w wk hb most fx S (.returned (.bool true)) (W.setCell ⟨wk, 3, none⟩ (.int .i64 t)) := (R.todoS t ht).fin hB h0 hl hk ha hb1
theorem bdOkL.get {n : Nat} : ∀ {l : List Bd} (_ : bdOkL n l) (j : Nat) (hj : j < l.length), bdOk n l[j]
  | _ :: _, h, 0, _ => h.1
  | _ :: l, h, j + 1, hj => bdOkL.get (l := l) h.2 j (by simpa using hj)
theorem Chain.goOn {s s' : Wk} {r : Bool} (h : Chain s) (g : GoOn s s' r) : Chain s' ∧ s'.ls.length ≤ s.ls.length + 1 ∧ s'.bk.length = s.bk.length ∧ ∀ g, g ∈ s.ls → g ∈ s'.ls := by
  rcases g with ⟨e1, e2, e3⟩ | ⟨_, x, e1, e2, e3, e4, e5⟩
  · refine ⟨⟨fun g hg => ?_, ?_, fun n a ha => ?_⟩, by rw [e1]; omega, by rw [e3], fun g hg => by rw [e1]; exact hg⟩
    · rw [e1] at hg ⊢; exact h.ls g hg
    · rw [e1, e2, e3]; exact h.todo
    · rw [e3] at ha; rw [e1]; exact h.bk n a ha
  · have q := h.push (x := x) (by rw [e2, e3]; exact h.todo)
    refine ⟨⟨fun g hg => ?_, ?_, fun n a ha => ?_⟩, by rw [e1]; simp, by rw [e5], fun g hg => by rw [e1]; exact List.mem_append_left _ hg⟩
    · rw [e1] at hg ⊢; exact q.ls g hg
    · rw [e1, e4, e5]; exact cutOf.last (by omega)
    · rw [e5] at ha; rw [e1]; exact q.bk n a ha
end
section
variable {H0 : Nat} {w : World} {wk hb : Nat} {V : _root_.Fin 6 → Value} {avs : List Value} {most : Int} {lv kv : Value} {fx : Fix} {s : Wk}
theorem step_or (h : WkIn H0 w wk hb V avs most lv kv fx s) (hch : Chain s) (hc : s.h.cost ≤ 1000000000000) (t : Nat) (g : Gl) (hto : s.todo = t) (ht : s.ls[t]? = some g) (ho : g.only = false) (hls : s.ls.length ≤ 900000000) (hbl : s.bk.length ≤ 900000000) (nm0 : ByteArray) (ar : List Ex) (ps : List Bd) (hgb : g.b = .mk 59 nm0 ar ps) :
    Calls Tryz.prog 89 #[.pointer (some ⟨wk, 0, none⟩)] w fun e w' => StepZ H0 w wk hb most fx s e w' := by
  have hcut := hch.at hto ht
  have HC4 : Hid (Chain { s with h := { s.h with cost := s.h.cost + 1 }, todo := g.rest }) := (hch.heap _).todoS ((hch.ls g (List.mem_of_getElem? ht)).mono hcut)
  have HCR : Hid (cutOf s.ls g.rest g.cut) := hch.ls g (List.mem_of_getElem? ht)
  clear hch
  have hc0 := h.S.c0
  obtain ⟨c0, c1, c2, c3, c4, cf⟩ := h.cs
  have d6 : w.cell? ⟨hb, 6, none⟩ = some (.int .i64 s.h.cost) := by rw [h.S.H.tab.H.c 6]; rfl
  have e6 := h.S.H.tab.H.fz 6
  have hhb := h.S.H.tab.H.lt_size
  have hlt := h.lt
  obtain ⟨q1, q2⟩ := h.S.count (s.h.cost + 1) (by omega)
  obtain ⟨h1, b1⟩ := h.heaped q1 q2 (List.prefix_refl _)
  obtain ⟨w1, hw1⟩ : ∃ w1, w1 = w.setCell ⟨hb, 6, none⟩ (.int .i64 (s.h.cost + 1)) := ⟨_, rfl⟩
  rw [← hw1] at h1 b1
  have HH := hide h1
  have HB1 := hide b1
  have htl : t < s.ls.length := (List.getElem?_eq_some_iff.1 ht).1
  have HT := hide ht
  have HO := hide ho
  clear h h1 b1 q1 q2 cf ht ho
  go_enter Tryz.func89, Tryz.ntmps89
  go_upto_region 2 with fail
  rw [← hw1]
  clear hw1 c0 c1 c2 c3 c4 d6 e6 hhb hlt
  obtain ⟨c0, c1, c2, c3, c4, cf⟩ := HH.out.cs
  have hlt := HH.out.lt
  obtain ⟨lg, lcap, k, nm, a0, a1, a2, p0, p1, p2, rfl, hlg, hcs, g0, g1, g2, g3, g4, g5, g6, g7⟩ := HH.out.listAt HT.out
  have hrow := (HH.out.gl g (List.mem_of_getElem? HT.out)).row.own
  obtain ⟨vo, vc, hvv⟩ := row_form hrow
  rw [hvv] at g5
  rw [HO.out] at g4
  have c3' : w1.cell? ⟨wk, 3, none⟩ = some (.int .i64 (t : Nat)) := by rw [c3, ← hto]
  have c3'' : w1.drew.cell? ⟨wk, 3, none⟩ = some (.int .i64 (t : Nat)) := c3'
  have f3 := cf 3
  have f4 := cf 4
  clear cf c3 hrow
  go_wp2_with fail
  go_region
  obtain ⟨W2, hW2⟩ : ∃ W2, W2 = (w1.alloc (.cells #[.int .u8 k, .string nm, .slice a0 a1 a2, .slice p0 p1 p2, .bool false, .slice vo g.vs.length vc, .int .i64 g.cut, .int .i64 g.rest] 178)).drew := ⟨_, rfl⟩
  have hB2 : Below w1.heap.size w1 W2 := by rw [hW2]; exact ((Below.refl _ _).alloc (Nat.le_refl _) _).drew
  have hbx : W2.heap[w1.heap.size]? = some (.cells #[.int .u8 k, .string nm, .slice a0 a1 a2, .slice p0 p1 p2, .bool false, .slice vo g.vs.length vc, .int .i64 g.cut, .int .i64 g.rest] 178 (0, 0)) := by rw [hW2]; exact heap_alloc_new w1 _
  rw [← hW2]
  have h2 := HH.out.below hB2
  obtain ⟨h3, b3⟩ := h2.todoS g.rest
  obtain ⟨W3, hW3⟩ : ∃ W3, W3 = W2.setCell ⟨wk, 3, none⟩ (.int .i64 g.rest) := ⟨_, rfl⟩
  rw [← hW3] at h3 b3
  have hnew : w1.heap.size ≠ wk := fun e => by omega
  have hbx3 : W3.heap[w1.heap.size]? = some (.cells #[.int .u8 k, .string nm, .slice a0 a1 a2, .slice p0 p1 p2, .bool false, .slice vo g.vs.length vc, .int .i64 g.cut, .int .i64 g.rest] 178 (0, 0)) := by rw [hW3, Below.heap_setCell _ _ _ _ hnew]; exact hbx
  have x7 : W2.cell? ⟨w1.heap.size, 7, none⟩ = some (.int .i64 g.rest) := by rw [cell_of_block hbx]; rfl
  have m3 := h2.cs.2.2.2.1
  have mf3 := h2.cs.2.2.2.2.2 3
  have hlt2 := h2.lt
  have hs2 : w1.heap.size < W2.heap.size := (Array.getElem?_eq_some_iff.1 hbx).1
  have z0 : W3.cell? ⟨w1.heap.size, 0, none⟩ = some (.int .u8 k) := by rw [cell_of_block hbx3]; rfl
  have z1 : W3.cell? ⟨w1.heap.size, 1, none⟩ = some (.string nm) := by rw [cell_of_block hbx3]; rfl
  have z2 : W3.cell? ⟨w1.heap.size, 2, none⟩ = some (.slice a0 a1 a2) := by rw [cell_of_block hbx3]; rfl
  have z3 : W3.cell? ⟨w1.heap.size, 3, none⟩ = some (.slice p0 p1 p2) := by rw [cell_of_block hbx3]; rfl
  have z4 : W3.cell? ⟨w1.heap.size, 4, none⟩ = some (.bool false) := by rw [cell_of_block hbx3]; rfl
  have hs3 : w1.heap.size < W3.heap.size := (Array.getElem?_eq_some_iff.1 hbx3).1
  obtain ⟨W4, hW4⟩ : ∃ W4, W4 = W3.alloc (.cells #[.int .u8 k, .string nm, .slice a0 a1 a2, .slice p0 p1 p2] 47) := ⟨_, rfl⟩
  have hB4 : Below W3.heap.size W3 W4 := by rw [hW4]; exact (Below.refl _ _).alloc (Nat.le_refl _) _
  have hbb : W4.heap[W3.heap.size]? = some (.cells #[.int .u8 k, .string nm, .slice a0 a1 a2, .slice p0 p1 p2] 47 (0, 0)) := by rw [hW4]; exact heap_alloc_new _ _
  have hbx4 := (hB4.block w1.heap.size hs3).trans hbx3
  have h4 := h3.below hB4
  obtain ⟨ko, kc, hkv⟩ := row_form h4.bo
  rw [hkv] at h4
  have hcap : s.bk.length ≤ kc ∧ kc ≤ maxLen := by
    rcases h4.bo.2 with ⟨q, q0⟩ | ⟨g, cp, cur, q, _, _, q3, q4, _⟩
    · injection q with _ _ q; exact ⟨by have : s.bk.length = 0 := q0; omega, by rw [q]; unfold maxLen; omega⟩
    · injection q with _ _ q; subst q; exact ⟨q3, q4⟩
  unfold maxLen at hcap
  obtain ⟨r0, r1, r2, r3, r4, rf⟩ := h4.cs
  have r4' : W4.cell? ⟨wk, 4, none⟩ = some (.slice ko s.bk.length kc) := r4
  have rf4 := rf 4
  have rf3 := rf 3
  have hlt4 := h4.lt
  have y0 : W4.cell? ⟨W3.heap.size, 0, none⟩ = some (.int .u8 k) := by rw [cell_of_block hbb]; rfl
  have y1 : W4.cell? ⟨W3.heap.size, 1, none⟩ = some (.string nm) := by rw [cell_of_block hbb]; rfl
  have y2 : W4.cell? ⟨W3.heap.size, 2, none⟩ = some (.slice a0 a1 a2) := by rw [cell_of_block hbb]; rfl
  have y3 : W4.cell? ⟨W3.heap.size, 3, none⟩ = some (.slice p0 p1 p2) := by rw [cell_of_block hbb]; rfl
  have x5 : W4.cell? ⟨w1.heap.size, 5, none⟩ = some (.slice vo g.vs.length vc) := by rw [cell_of_block hbx4]; rfl
  have x6 : W4.cell? ⟨w1.heap.size, 6, none⟩ = some (.int .i64 g.cut) := by rw [cell_of_block hbx4]; rfl
  have hs4 : W3.heap.size < W4.heap.size := (Array.getElem?_eq_some_iff.1 hbb).1
  have HBB : Hid (Below H0 w W4) := HB1.out.trans ((hB2.mono HH.out.size).trans (b3.trans (hB4.mono h3.size)))
  have H4 := hide h4
  have HBB4 := hide hbb
  have HBX4 := hide hbx4
  clear hW2 hB2 hbx h2 h3 b3 hbx3 g0 g1 g2 g3 g4 g5 g6 g7 c0 c1 c2 c3' c3'' c4 f3 f4 hbb hbx4 h4 hB4 rf r4
  go_upto_region 4 with fail
  rw [← hW3]
  clear hW3
  go_upto_region 8 with fail
  rw [← hW4]
  clear hW4
  clear z0 z1 z2 z3 z4 x7 m3 mf3 hlt2
  obtain ⟨hbr, hbo⟩ := (HH.out.gl g (List.mem_of_getElem? HT.out)).body HO.out
  rw [hgb, hcs] at hbr
  rw [hgb] at hbo
  obtain ⟨hk, hpr⟩ : k = 59 ∧ PRep w1 (fun b => b < H0) ps (.slice p0 p1 p2) := by cases hbr with | mk _ _ _ _ _ _ ha hp => exact ⟨rfl, hp⟩
  subst hk
  have hrv := (HH.out.gl g (List.mem_of_getElem? HT.out)).row
  obtain ⟨x0, x1, rfl⟩ : ∃ x0 x1, ps = [x0, x1] := by
    have hl : ps.length = 2 := by
      rcases hbo.2.2.1 with q | q | ⟨q, r⟩ | ⟨q, r⟩ | ⟨q, r⟩ | q
      all_goals first | exact absurd q (by decide) | exact r
    match ps, hl with
    | [x0, x1], _ => exact ⟨_, _, rfl⟩
  have hpr4 : PRep W4 (fun b => b < H0) [x0, x1] (.slice p0 p1 p2) := hpr.frame (fun b q _ => ⟨(HBB.out.block b q).trans (HB1.out.block b q).symm, q⟩)
  obtain ⟨pg, pc, m0, n0, u00, u01, u02, v00, v01, v02, hq, hpc1, hpc2, hpl, i00, i01, i02, i03, hR0⟩ := part_elem hpr4 (k := 0) (by simp)
  obtain ⟨e1, e2, e3⟩ : p0 = some ⟨pg, 0, none⟩ ∧ p1 = 2 ∧ p2 = pc := by injection hq with e1 e2 e3; exact ⟨e1, e2, e3⟩
  subst e1 e2 e3
  have hpg := hpr4.okg
  simp only [List.length_cons, List.length_nil] at hpc1
  have j00 : W4.cell? ⟨pg, 0, none⟩ = some (.int .u8 m0) := i00
  have j01 : W4.cell? ⟨pg, 1, none⟩ = some (.string n0) := i01
  have j02 : W4.cell? ⟨pg, 2, none⟩ = some (.slice u00 u01 u02) := i02
  have j03 : W4.cell? ⟨pg, 3, none⟩ = some (.slice v00 v01 v02) := i03
  obtain ⟨pg', pc', m1, n1, u10, u11, u12, v10, v11, v12, hq', _, _, _, i10, i11, i12, i13, hR1⟩ := part_elem hpr4 (k := 1) (by simp)
  obtain ⟨e1, e2⟩ : pg = pg' ∧ p2 = pc' := by injection hq' with e1 _ e3; injection e1 with e1; injection e1 with e1; exact ⟨e1, e3⟩
  subst e1 e2
  clear hq'
  have j10 : W4.cell? ⟨pg, 4, none⟩ = some (.int .u8 m1) := i10
  have j11 : W4.cell? ⟨pg, 5, none⟩ = some (.string n1) := i11
  have j12 : W4.cell? ⟨pg, 6, none⟩ = some (.slice u10 u11 u12) := i12
  have j13 : W4.cell? ⟨pg, 7, none⟩ = some (.slice v10 v11 v12) := i13
  have hkl : ∀ b, (Value.slice ko s.bk.length kc).ownBlock = some b → b < w1.heap.size := fun b e => (HH.out.bo.lt b (by rw [hkv]; exact e)).2
  have HSK : Hid (∀ (W : World) (lv' kv' : Value), KFr wk (.slice (some ⟨lg, 0, none⟩) s.ls.length lcap) lv' (.slice ko s.bk.length kc) kv' W4 W → Below H0 W4 W → W.cell? ⟨W3.heap.size, 3, none⟩ = some (.slice (some ⟨pg, 0, none⟩) 2 p2) ∧ W.cell? ⟨pg, 0, none⟩ = some (.int .u8 m0) ∧ W.cell? ⟨pg, 1, none⟩ = some (.string n0) ∧ W.cell? ⟨pg, 2, none⟩ = some (.slice u00 u01 u02) ∧ W.cell? ⟨pg, 3, none⟩ = some (.slice v00 v01 v02) ∧ W.cell? ⟨pg, 4, none⟩ = some (.int .u8 m1) ∧ W.cell? ⟨pg, 5, none⟩ = some (.string n1) ∧ W.cell? ⟨pg, 6, none⟩ = some (.slice u10 u11 u12) ∧ W.cell? ⟨pg, 7, none⟩ = some (.slice v10 v11 v12) ∧ W.cell? ⟨w1.heap.size, 5, none⟩ = some (.slice vo g.vs.length vc) ∧ W.cell? ⟨w1.heap.size, 6, none⟩ = some (.int .i64 g.cut)) := fun W lv' kv' hK hB => by
    have b1 := (hK.block w1.heap.size (by omega) hnew (fun e => by have e' : lg = w1.heap.size := Option.some.inj e; omega) (fun e => by have := hkl _ e; omega)).trans HBX4.out
    have b2 := (hK.block W3.heap.size (by omega) (by omega) (fun e => by have e' : lg = W3.heap.size := Option.some.inj e; omega) (fun e => by have := hkl _ e; omega)).trans HBB4.out
    have b3 : ∀ j, W.cell? ⟨pg, j, none⟩ = W4.cell? ⟨pg, j, none⟩ := fun j => by unfold World.cell?; rw [hB.block pg hpg]
    exact ⟨by rw [cell_of_block b2]; rfl, (b3 0).trans j00, (b3 1).trans j01, (b3 2).trans j02, (b3 3).trans j03, (b3 4).trans j10, (b3 5).trans j11, (b3 6).trans j12, (b3 7).trans j13, by rw [cell_of_block b1]; rfl, by rw [cell_of_block b1]; rfl⟩
  have hS4 := HSK.out W4 _ _ (KFr.refl _ _ _ _) (Below.refl _ _)
  have r3' : W4.cell? ⟨wk, 3, none⟩ = some (.int .i64 g.rest) := r3
  obtain ⟨s4, hs4'⟩ : ∃ s4 : Wk, s4 = { s with h := { s.h with cost := s.h.cost + 1 }, todo := g.rest } := ⟨_, rfl⟩
  have HF4 : Hid (s4.h = { s.h with cost := s.h.cost + 1 } ∧ s4.ls = s.ls ∧ s4.bk = s.bk ∧ s4.todo = g.rest) := by rw [hs4']; exact ⟨rfl, rfl, rfl, rfl⟩
  have HR4 : Hid (Run H0 W4 W4 wk hb V avs most fx (.slice (some ⟨lg, 0, none⟩) s.ls.length lcap) (.slice (some ⟨lg, 0, none⟩) s.ls.length lcap) (.slice ko s.bk.length kc) (.slice ko s.bk.length kc) s4 s4 0 0) := by
    rw [hs4']; exact Run.begin H4.out HC4.out
  have q1 : s4.ls.length ≤ 900000000 := by rw [hs4']; exact hls
  have q2 : s4.bk.length ≤ 900000000 := by rw [hs4']; exact hbl
  have q3 : g.cut ≤ s4.bk.length := by rw [hs4']; exact hcut
  have q4 : Hid (s4.bk.length = s.bk.length) := by rw [hs4']; exact (rfl : s.bk.length = s.bk.length)
  have HMM : Hid (g ∈ s4.ls) := by rw [hs4']; exact (List.mem_of_getElem? HT.out : g ∈ s.ls)
  have HC0 : Hid (cutOf s4.ls g.rest g.cut) := by rw [hs4']; exact HCR.out
  have HVV := hide hvv
  have hwk4 := HR4.out.h.lt
  clear hs4' HC4 HCR hkl r3 hpr hpr4 hq hvv hrv
  go_upto_region 19 with fail
  have HP5 := hide (push_run HR4.out.drew HMM.out (by omega) hR1 hbo.2.2.2.2.2.1 HVV.out g.cut g.rest HC0.out)
  go_region_held (fun w' => w'.cell? ⟨wk, 3, none⟩ = some (.int .i64 g.rest) ∧ w'.cell? ⟨W3.heap.size, 3, none⟩ = some (.slice (some ⟨pg, 0, none⟩) 2 p2) ∧ w'.cell? ⟨pg, 0, none⟩ = some (.int .u8 m0) ∧ w'.cell? ⟨pg, 1, none⟩ = some (.string n0) ∧ w'.cell? ⟨pg, 2, none⟩ = some (.slice u00 u01 u02) ∧ w'.cell? ⟨pg, 3, none⟩ = some (.slice v00 v01 v02) ∧ w'.cell? ⟨pg, 4, none⟩ = some (.int .u8 m1) ∧ w'.cell? ⟨pg, 5, none⟩ = some (.string n1) ∧ w'.cell? ⟨pg, 6, none⟩ = some (.slice u10 u11 u12) ∧ w'.cell? ⟨pg, 7, none⟩ = some (.slice v10 v11 v12) ∧ w'.cell? ⟨w1.heap.size, 5, none⟩ = some (.slice vo g.vs.length vc) ∧ w'.cell? ⟨w1.heap.size, 6, none⟩ = some (.int .i64 g.cut)) (first | exact ⟨r3', hS4⟩ | exact ⟨y5, hS5⟩) (first | (go_at_call 58; refine HP5.out.mono ?_; rintro e w5 ⟨rfl, lv5, s5, R5, c5, m5⟩; have HR5 := hide R5; have HC5 := hide c5; have HM5 := hide m5; have hS5 := HSK.out _ _ _ R5.K R5.B; have hw5 := R5.h.lt; have y5 : w5.cell? ⟨wk, 3, none⟩ = some (.int .i64 g.rest) := (R5.h.cs.2.2.2.1).trans (by rw [R5.todo, HF4.out.2.2.2]); have yf5 := R5.h.cs.2.2.2.2.2 3; clear R5 c5 m5))
  clear hS4
  have HO6 := hide (come_run HR5.out (by omega) s4.ls.length (HC5.out _ q3))
  go_upto_region 21 with (go_at_call 132; refine HO6.out.mono ?_; rintro e w6 ⟨rfl, kv6, s6, R6, e6⟩; have HR6 := hide R6; have HE6 := hide e6; have hS6 := HSK.out _ _ _ R6.K R6.B; have hw6 := R6.h.lt; have y6 : w6.cell? ⟨wk, 3, none⟩ = some (.int .i64 g.rest) := (R6.h.cs.2.2.2.1).trans (by rw [R6.todo, HF4.out.2.2.2]); clear R6 e6)
  clear hS5
  have HP7 := hide (push_run HR6.out.drew HMM.out (by omega) hR0 hbo.2.2.2.2.1 HVV.out g.cut g.rest (HR6.out.cuts _ _ HC0.out))
  refine wp_region_held_drew (S := fun w' => w'.cell? ⟨W3.heap.size, 3, none⟩ = some (.slice (some ⟨pg, 0, none⟩) 2 p2) ∧ w'.cell? ⟨pg, 0, none⟩ = some (.int .u8 m0) ∧ w'.cell? ⟨pg, 1, none⟩ = some (.string n0) ∧ w'.cell? ⟨pg, 2, none⟩ = some (.slice u00 u01 u02) ∧ w'.cell? ⟨pg, 3, none⟩ = some (.slice v00 v01 v02) ∧ w'.cell? ⟨pg, 4, none⟩ = some (.int .u8 m1) ∧ w'.cell? ⟨pg, 5, none⟩ = some (.string n1) ∧ w'.cell? ⟨pg, 6, none⟩ = some (.slice u10 u11 u12) ∧ w'.cell? ⟨pg, 7, none⟩ = some (.slice v10 v11 v12) ∧ w'.cell? ⟨w1.heap.size, 5, none⟩ = some (.slice vo g.vs.length vc) ∧ w'.cell? ⟨w1.heap.size, 6, none⟩ = some (.int .i64 g.cut)) (by kernel_rfl) hS6 (fun hHeld => ?_)
  refine wpAnyH_take (i := 0) (v := .pointer (some ⟨wk, 0, none⟩)) rfl (by kernel_rfl) (by kernel_rfl) (by kernel_rfl) (fun _ _ _ h => h) (Or.inl ⟨by rfl, by intro w hSw; (try dsimp only at hSw); go_simp⟩) hHeld ?_
  (try simp only [Act.put, List.setIfInBounds_toArray])
  refine wpAnyH_take (i := 1) (v := .pointer (some ⟨wk, 0, none⟩)) rfl (by kernel_rfl) (by kernel_rfl) (by kernel_rfl) (fun _ _ _ h => h) (Or.inl ⟨by rfl, by intro w hSw; (try dsimp only at hSw); go_simp⟩) hHeld ?_
  (try simp only [Act.put, List.setIfInBounds_toArray])
  refine wpAnyH_take (i := 2) (v := .pointer (some ⟨W3.heap.size, 3, none⟩)) rfl (by kernel_rfl) (by kernel_rfl) (by kernel_rfl) (fun _ _ _ h => h) (Or.inl ⟨by rfl, by intro w hSw; (try dsimp only at hSw); go_simp⟩) hHeld ?_
  (try simp only [Act.put, List.setIfInBounds_toArray])
  refine wpAnyH_take (i := 3) (v := .slice (some ⟨pg, 0, none⟩) 2 p2) rfl (by kernel_rfl) (by kernel_rfl) (by kernel_rfl) (fun _ _ _ h => h) (Or.inl ⟨by rfl, by intro w hSw; (try dsimp only at hSw); go_simp⟩) hHeld ?_
  (try simp only [Act.put, List.setIfInBounds_toArray])
  refine wpAnyH_take (i := 4) (v := .pointer (some ⟨pg, 0, none⟩)) rfl (by kernel_rfl) (by kernel_rfl) (by kernel_rfl) (fun _ _ _ h => h) (Or.inl ⟨by rfl, by intro w hSw; (try dsimp only at hSw); go_simp⟩) hHeld ?_
  (try simp only [Act.put, List.setIfInBounds_toArray])
  refine wpAnyH_take (i := 5) (v := .agg #[.int .u8 m0, .string n0, .slice u00 u01 u02, .slice v00 v01 v02]) rfl (by kernel_rfl) (by kernel_rfl) (by kernel_rfl) (fun _ _ _ h => h) (Or.inl ⟨by rfl, by intro w hSw; (try dsimp only at hSw); go_simp⟩) hHeld ?_
  (try simp only [Act.put, List.setIfInBounds_toArray])
  refine wpAnyH_take (i := 6) (v := .pointer (some ⟨w1.heap.size, 5, none⟩)) rfl (by kernel_rfl) (by kernel_rfl) (by kernel_rfl) (fun _ _ _ h => h) (Or.inl ⟨by rfl, by intro w hSw; (try dsimp only at hSw); go_simp⟩) hHeld ?_
  (try simp only [Act.put, List.setIfInBounds_toArray])
  refine wpAnyH_take (i := 7) (v := .slice vo g.vs.length vc) rfl (by kernel_rfl) (by kernel_rfl) (by kernel_rfl) (fun _ _ _ h => h) (Or.inl ⟨by rfl, by intro w hSw; (try dsimp only at hSw); go_simp⟩) hHeld ?_
  (try simp only [Act.put, List.setIfInBounds_toArray])
  refine wpAnyH_take (i := 8) (v := .pointer (some ⟨w1.heap.size, 6, none⟩)) rfl (by kernel_rfl) (by kernel_rfl) (by kernel_rfl) (fun _ _ _ h => h) (Or.inl ⟨by rfl, by intro w hSw; (try dsimp only at hSw); go_simp⟩) hHeld ?_
  (try simp only [Act.put, List.setIfInBounds_toArray])
  refine wpAnyH_take (i := 9) (v := .int .i64 g.cut) rfl (by kernel_rfl) (by kernel_rfl) (by kernel_rfl) (fun _ _ _ h => h) (Or.inl ⟨by rfl, by intro w hSw; (try dsimp only at hSw); go_simp⟩) hHeld ?_
  (try simp only [Act.put, List.setIfInBounds_toArray])
  refine wpAnyH_take (i := 10) (v := .pointer (some ⟨wk, 0, none⟩)) rfl (by kernel_rfl) (by kernel_rfl) (by kernel_rfl) (fun _ _ _ h => h) (Or.inl ⟨by rfl, by intro w hSw; (try dsimp only at hSw); go_simp⟩) hHeld ?_
  (try simp only [Act.put, List.setIfInBounds_toArray])
  refine wpAnyH_take (i := 11) (v := .pointer (some ⟨wk, 0, none⟩)) rfl (by kernel_rfl) (by kernel_rfl) (by kernel_rfl) (fun _ _ _ h => h) (Or.inl ⟨by rfl, by intro w hSw; (try dsimp only at hSw); go_simp⟩) hHeld ?_
  (try simp only [Act.put, List.setIfInBounds_toArray])
  refine wpAnyH_take (i := 12) (v := .pointer (some ⟨wk, 3, none⟩)) rfl (by kernel_rfl) (by kernel_rfl) (by kernel_rfl) (fun _ _ _ h => h) (Or.inl ⟨by rfl, by intro w hSw; (try dsimp only at hSw); go_simp⟩) hHeld ?_
  (try simp only [Act.put, List.setIfInBounds_toArray])
  refine wpAnyH_ready (rs := [13]) (by kernel_rfl) (by simp) ?_
  refine AllReadyH.cons rfl (fun K hK => ?_) AllReadyH.nil
  go_simp
  refine hK.out _ _ hHeld (fun hHeld2 => ?_)
  clear hK K
  refine wpAnyH_ready (rs := [14]) (by kernel_rfl) (by simp) ?_
  refine AllReadyH.cons rfl (fun K hK => ?_) AllReadyH.nil
  go_simp
  go_wp2_with (go_at_call 58; refine HP7.out.mono ?_; rintro e w7 ⟨rfl, lv7, s7, R7, c7, m7⟩; have HR7 := hide R7; have HC7 := hide c7; have HM7 := hide m7; have hS7 := HSK.out _ _ _ R7.K R7.B; have hw7 := R7.h.lt; have y7 : w7.cell? ⟨wk, 3, none⟩ = some (.int .i64 g.rest) := (R7.h.cs.2.2.2.1).trans (by rw [R7.todo, HF4.out.2.2.2]); have yf7 := R7.h.cs.2.2.2.2.2 3; have hSs : ∀ v, (w7.setCell ⟨wk, 3, none⟩ v).cell? ⟨W3.heap.size, 3, none⟩ = some (.slice (some ⟨pg, 0, none⟩) 2 p2) ∧ (w7.setCell ⟨wk, 3, none⟩ v).cell? ⟨pg, 0, none⟩ = some (.int .u8 m0) ∧ (w7.setCell ⟨wk, 3, none⟩ v).cell? ⟨pg, 1, none⟩ = some (.string n0) ∧ (w7.setCell ⟨wk, 3, none⟩ v).cell? ⟨pg, 2, none⟩ = some (.slice u00 u01 u02) ∧ (w7.setCell ⟨wk, 3, none⟩ v).cell? ⟨pg, 3, none⟩ = some (.slice v00 v01 v02) ∧ (w7.setCell ⟨wk, 3, none⟩ v).cell? ⟨pg, 4, none⟩ = some (.int .u8 m1) ∧ (w7.setCell ⟨wk, 3, none⟩ v).cell? ⟨pg, 5, none⟩ = some (.string n1) ∧ (w7.setCell ⟨wk, 3, none⟩ v).cell? ⟨pg, 6, none⟩ = some (.slice u10 u11 u12) ∧ (w7.setCell ⟨wk, 3, none⟩ v).cell? ⟨pg, 7, none⟩ = some (.slice v10 v11 v12) ∧ (w7.setCell ⟨wk, 3, none⟩ v).cell? ⟨w1.heap.size, 5, none⟩ = some (.slice vo g.vs.length vc) ∧ (w7.setCell ⟨wk, 3, none⟩ v).cell? ⟨w1.heap.size, 6, none⟩ = some (.int .i64 g.cut) := fun v => HSK.out _ _ _ (R7.K.trans (KFr.setW _ 3 _ _ v _)) (R7.B.setCell (p := ⟨wk, 3, none⟩) R7.h.nw _); clear R7 c7 m7)
  refine hK.out _ _ hS7 (fun hHeld3 => ?_)
  clear hK K
  refine wpAnyH_take (i := 15) (v := .pointer (some ⟨wk, 0, none⟩)) rfl (by kernel_rfl) (by kernel_rfl) (by kernel_rfl) (fun _ _ _ h => h) (Or.inl ⟨by rfl, by intro w hSw; (try dsimp only at hSw); go_simp⟩) hHeld3 ?_
  (try simp only [Act.put, List.setIfInBounds_toArray])
  refine wpAnyH_take (i := 16) (v := .pointer (some ⟨wk, 3, none⟩)) rfl (by kernel_rfl) (by kernel_rfl) (by kernel_rfl) (fun _ _ _ h => h) (Or.inl ⟨by rfl, by intro w hSw; (try dsimp only at hSw); go_simp⟩) hHeld3 ?_
  (try simp only [Act.put, List.setIfInBounds_toArray])
  refine wpAnyH_ready (rs := [17]) (by kernel_rfl) (by simp) ?_
  refine AllReadyH.cons rfl (fun K hK => ?_) AllReadyH.nil
  go_simp
  refine hK.out _ _ (hSs _) (fun hHeld4 => ?_)
  clear hK K hHeld4 hHeld3 hHeld
  refine wpAnyH_done (by kernel_rfl) ?_ _
  all_goals
    have HF : Hid (StepZ H0 w wk hb most fx s (.returned (.bool true)) (w7.setCell ⟨wk, 3, none⟩ (.int .i64 s6.ls.length))) := HR7.out.done _ (HC7.out _ q3) HBB.out HF4.out.1 HF4.out.2.1 HF4.out.2.2.1 (by omega) (by omega)
    clear hSs
    go_wp2_with fail
    go_ret
    exact HF.out
end
end Go.Proofs.YtodpkdajbnceoaaGreatDoor

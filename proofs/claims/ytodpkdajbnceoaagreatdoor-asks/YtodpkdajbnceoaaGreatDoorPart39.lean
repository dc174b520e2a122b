import Derived.Test.YtodpkdajbnceoaaGreatDoorPart36
import Derived.Test.YtodpkdajbnceoaaGreatDoorPart37
import Derived.Test.YtodpkdajbnceoaaGreatDoorPart38
import Derived.Test.YtodpkdajbnceoaaGreatDoorPart35
set_option linter.all false
set_option maxHeartbeats 2000000
set_option maxRecDepth 100000
namespace Go.Proofs.YtodpkdajbnceoaaGreatDoor
open Go.RowKit Go.Shelf
theorem asCall_c {w : World} {Ok : Nat → Prop} {vbs : List Nat} {x : Ex} {u : Value} (h : TRep w Ok vbs x u) (ht : TopOk x) : Calls Tryz.prog 284 #[u] w fun e w' => CallPost x w e w' := by
  cases h with
  | atom n =>
    have tAA := Tryz.taAA
    have hb : badEx (.atom n) = (n.toList == [91, 93]) := by
      have hn : n.toList ≠ [46] := ht
      have : (n.toList == [46]) = false := by simpa using hn
      simp [badEx, opEx, exName, this]
    clear ht
    go_enter Tryz.func284, Tryz.ntmps284
    go_wp2_with fail
    exact bodyPost_ret (v := .tuple #[.agg #[.string n, .slice none 0 0], .bool (!(n.toList == [91, 93]))]) (by simp [results, Tryz.results284, go_sem]) rfl ⟨(Below.refl _ _).alloc (Nat.le_refl _) _, none, 0, by rw [hb]; rfl⟩
  | num v =>
    have tNA := Tryz.taNA
    have tNC := Tryz.taNC
    clear ht
    go_enter Tryz.func284, Tryz.ntmps284
    go_wp2_with fail
    exact bodyPost_ret (v := .tuple #[.agg #[.string ByteArray.empty, .slice none 0 0], .bool false]) (by simp [results, Tryz.results284, go_sem]; rfl) rfl ⟨(Below.refl _ _).alloc (Nat.le_refl _) _, none, 0, rfl⟩
  | var k b hk =>
    have tVA := Tryz.taVA
    have tVC := Tryz.taVC
    clear ht hk
    unfold ptrV
    go_enter Tryz.func284, Tryz.ntmps284
    go_wp2_with fail
    exact bodyPost_ret (v := .tuple #[.agg #[.string ByteArray.empty, .slice none 0 0], .bool false]) (by simp [results, Tryz.results284, go_sem]; rfl) rfl ⟨(Below.refl _ _).alloc (Nat.le_refl _) _, none, 0, rfl⟩
  | cmp n args g ga cap cur us hg ho ha hc hm hs hu hr hl =>
    have hb := bad_cmp ht
    cases hb1 : decide (n = B [46] ∧ args.length = 2) with
    | true =>
      rw [hb1] at hb
      exact asCall_t n args g ga cap cur us hg ho ha hc hm hs hu hr hl hb1 (by rw [hb]; rfl)
    | false =>
      cases hb2 : decide (strOf (.cmp n args) < 3) with
      | true =>
        rw [hb1, hb2] at hb
        exact asCall_ft n args g ga cap cur us hg ho ha hc hm hs hu hr hl hb1 hb2 (by rw [hb]; rfl)
      | false =>
        rw [hb1, hb2] at hb
        exact asCall_ff n args g ga cap cur us hg ho ha hc hm hs hu hr hl hb1 hb2 (by rw [hb]; rfl)
end Go.Proofs.YtodpkdajbnceoaaGreatDoor
namespace Go.Proofs.YtodpkdajbnceoaaGreatDoor
open Go.RowKit
theorem must_mono {α : Type} {toks : List Tok} {s : List UInt8} {x y : α} {st st' : St} (e : mustT toks s x st = .ok (y, st')) : st.1 ≤ st'.1 := by
  unfold mustT at e
  split at e
  · cases e; show st.1 ≤ st.1 + 1; omega
  · cases e
theorem rowG_mono {toks : List Tok} {lit : St → R Bd} (h : Mono lit) : ∀ (f : Nat) (acc : List Bd) (st : St) (l : List Bd) (st' : St), rowG toks lit f acc st = .ok (l, st') → st.1 ≤ st'.1
  | 0, acc, st, l, st', e => by rw [rowG] at e; cases e; exact Nat.le_refl _
  | f + 1, acc, st, l, st', e => by
    rw [rowG] at e
    split at e
    · cases e
    · rename_i x s1 hx
      have h1 := h _ _ _ hx
      split at e
      · have h2 : s1.1 + 1 ≤ st'.1 := rowG_mono h f _ (s1.1 + 1, s1.2) _ _ e
        omega
      · cases e; exact h1
theorem rowBd_mono {toks : List Tok} {lit : St → R Bd} (h : Mono lit) : Mono (rowBd toks lit) := by
  intro st x st' e
  unfold rowBd rowEnd at e
  split at e
  · cases e
  · rename_i l s1 hl
    cases e
    exact rowG_mono h _ _ _ _ _ hl
theorem bodyOf_mono {toks : List Tok} {lit rest : St → R Bd} (h : Mono lit) (h2 : Mono rest) : Mono (bodyOf toks lit rest) := by
  intro st x st' e
  unfold bodyOf at e
  split at e
  · cases e
  · rename_i a s1 ha
    have k1 := rowBd_mono h _ _ _ ha
    split at e
    · unfold thenOf at e
      split at e
      · cases e
      · rename_i b s2 hb
        have k2 : s1.1 + 1 ≤ s2.1 := rowBd_mono h (s1.1 + 1, s1.2) _ _ hb
        split at e
        · split at e
          · cases e
          · rename_i c s3 hc
            have k3 : s2.1 + 1 ≤ s3.1 := h2 (s2.1 + 1, s2.2) _ _ hc
            cases e; omega
        · cases e; omega
    · split at e
      · unfold orOf at e
        split at e
        · cases e
        · rename_i b s2 hb
          have k2 : s1.1 + 1 ≤ s2.1 := h2 (s1.1 + 1, s1.2) _ _ hb
          cases e; omega
      · cases e; exact k1
theorem goalOf_mono {toks : List Tok} {lit body : St → R Bd} {ex : St → R Ex} (h : Mono lit) (h2 : Mono body) (h3 : PartOk toks ex) : Mono (goalOf toks lit body ex) := by
  intro st x st' e
  unfold goalOf at e
  split at e
  · cases e; show st.1 ≤ st.1 + 1; omega
  · split at e
    · unfold notOf at e
      split at e
      · cases e
      · rename_i b s hb
        have k : st.1 + 1 ≤ s.1 := h (st.1 + 1, st.2) _ _ hb
        cases e; omega
    · split at e
      · unfold parOf at e
        split at e
        · cases e
        · rename_i b s hb
          have k : st.1 + 1 ≤ s.1 := h2 (st.1 + 1, st.2) _ _ hb
          have := must_mono e
          omega
      · unfold plainOf at e
        split at e
        · cases e
        · rename_i y s1 hy
          have k := (h3 _ _ _ hy).size
          split at e
          · split at e
            · cases e
            · rename_i z s2 hz
              have k2 : s1.1 + 1 + szE z ≤ s2.1 := (h3 (s1.1 + 1, s1.2) _ _ hz).size
              cases e; omega
          · unfold callOf at e
            split at e
            · cases e
            · split at e
              · cases e
              · cases e; omega
theorem litRest_mono {toks : List Tok} (hg : GoodToks toks) (hn : ∀ i, (tk toks i).t.size ≤ 2000) : ∀ k, Mono (litRest toks k).1 ∧ Mono (litRest toks k).2
  | 0 => ⟨fun _ _ _ e => (by cases e), fun _ _ _ e => (by cases e)⟩
  | k + 1 => by
    obtain ⟨h1, h2⟩ := litRest_mono hg hn k
    have hb := bodyOf_mono (toks := toks) h1 h2
    exact ⟨goalOf_mono h1 hb (expr_got (prim_got hg hn k) hn), hb⟩
def AsCallOk : Prop := ∀ (w : World) (vbs : List Nat) (x : Ex) (u : Value) (Ok : Nat → Prop), TRep w Ok vbs x u → TopOk x → Calls Tryz.prog 284 #[u] w fun e w' => CallPost x w e w'
theorem goal_rest_at {toks : List Tok} (hg : GoodToks toks) (ht : TTs toks) (hn : ∀ i, (tk toks i).t.size ≤ 2000) (HA : AsCallOk) : ∀ k : Nat, k ≤ 8 →
    GReads 242 toks (8 - (k : Int)) (litRest toks k).1 ∧ GReads 202 toks (8 - (k : Int)) (litRest toks k).2
  | 0, _ => ⟨goal_zero hg, other_zero hg⟩
  | k + 1, hk => by
    obtain ⟨h1, h2⟩ := goal_rest_at hg ht hn HA k (by omega)
    have hm := (litRest_mono hg hn k).1
    have hb := body_c hg ht (goals_c hg ht hm h1) h2
    have hp := plain_c hg ht (exprS_top ht k) (term_c hg ht hn (prim_got hg hn k) (prim_at_c hg ht hn k (by omega))) HA
    have e1 : (8 : Int) - ((k + 1 : Nat) : Int) + 1 = 8 - (k : Int) := by omega
    have g1 := goal_succ hg ht (d := 8 - ((k + 1 : Nat) : Int)) (by omega) (by omega) (lit := (litRest toks k).1) (body := bodyOf toks (litRest toks k).1 (litRest toks k).2) (ex := exprS toks k) (by rw [e1]; exact h1) (by rw [e1]; exact hb) (by rw [e1]; exact hp)
    have g2 := other_succ hg (d := 8 - ((k + 1 : Nat) : Int)) (by omega) (by omega) (r := bodyOf toks (litRest toks k).1 (litRest toks k).2) (by rw [e1]; exact hb)
    exact ⟨g1, g2⟩
theorem body_at_c {toks : List Tok} (hg : GoodToks toks) (ht : TTs toks) (hn : ∀ i, (tk toks i).t.size ≤ 2000) (HA : AsCallOk) : GReads 158 toks 0 (bodyS toks 8) := by
  obtain ⟨h1, h2⟩ := goal_rest_at hg ht hn HA 8 (Nat.le_refl _)
  exact body_c hg ht (goals_c hg ht (litRest_mono hg hn 8).1 h1) h2
def headAll (toks : List Tok) (ex : St → R Ex) (i : Nat) : R (List Ex) :=
  if (tk toks i).k = 97 then
    match headOf toks ex i with
    | .error e => .error e
    | .ok (l, s) => if 0 ≤ testsN (tk toks i).t ∨ (tk toks i).t.toList = [109, 111, 100] then .error (3, (tk toks i).a) else .ok (l, s)
  else .error (2, (tk toks i).a)
theorem clauseOf_eq (toks : List Tok) (ex : St → R Ex) (body : St → R Bd) (i : Nat) :
    clauseOf toks ex body i = match headAll toks ex i with | .error e => .error e | .ok (l, s) => pointOf toks (tk toks i).t l (tailOf toks body s) := by
  unfold clauseOf headAll
  split
  · cases headOf toks ex i with
    | error e => rfl
    | ok p =>
      dsimp only
      split <;> rfl
  · rfl
theorem named_head {toks : List Tok} (ht : TTs toks) {ex : St → R Ex} {i : Nat} (hk : (tk toks i).k = 97) :
    match headOf toks ex i with
    | .error e => namedOf toks ex (i, []) = .error e
    | .ok (l, s) => ∃ x, namedOf toks ex (i, []) = .ok (x, s) ∧ exName x = (tk toks i).t ∧ exArgs x = l ∧ TopOk x := by
  obtain ⟨n1, n2, n3, n4, n5, n6⟩ := name_top (ht i) hk
  unfold headOf namedOf
  by_cases hq : isT (tk toks (i + 1)) [40] = true
  · simp only [hq, if_true]
    cases argsOf toks ex (tk toks i).a (i + 2, []) with
    | error e => simp only
    | ok p =>
      simp only [mustT]
      by_cases hq2 : isT (tk toks p.2.1) [41] = true
      · simp only [hq2, if_true]
        exact ⟨.cmp (tk toks i).t p.1, rfl, rfl, rfl, ⟨fun q => by rcases q with q | q | q | q | q <;> contradiction, n6⟩⟩
      · simp only [hq2, if_false]
        rfl
  · simp only [hq, if_false]
    exact ⟨.atom (tk toks i).t, rfl, rfl, rfl, n5⟩
def HdPost (toks : List Tok) (bp : Nat) (lv vv : Value) (d : Int) (w : World) (r : R (List Ex)) (e : Ending) (w' : World) : Prop :=
  match r with
  | .error (er, a) => RFault er a bp lv vv d w e w'
  | .ok (_, s) => ∃ (n : ByteArray) (a : Option Addr) (k c : Nat) (vv' : Value) (vbs' : List Nat), e = .returned (.agg #[.string n, .slice a k c]) ∧ RIn w' bp toks lv vv' s.1 d s.2 vbs' ∧ Fr bp vv vv' w w'
theorem kC_name' {t : Tok} (h : TT t) : (kC t.k == 0) = decide (t.k = 97) := by
  have := h.kC_name
  rw [Bool.eq_iff_iff]
  simp [this]
theorem head_c {toks : List Tok} {d : Int} (hg : GoodToks toks) (ht : TTs toks) {ex : St → R Ex} (hpo : PartOk toks ex) (HP : RReads 139 toks d ex) (HA : AsCallOk)
    (w : World) (bp : Nat) (lv vv : Value) (i : Nat) (vbs : List Nat) (h : RIn w bp toks lv vv i d [] vbs) :
    Calls Tryz.prog 232 #[ptrV bp] w fun e w' => HdPost toks bp lv vv d w (headAll toks ex i) e w' := by
  have HN := hide (fun (w' : World) (h' : RIn w' bp toks lv vv i d [] vbs) => now_c h' hg)
  have HNa := hide (fun (w' : World) (h' : RIn w' bp toks lv vv i d [] vbs) (hk : (tk toks i).k = 97) => named_c hg ht ex hpo HP w' bp lv vv (i, []) vbs h' hk)
  have HM := hide (fun (w' : World) (h' : RIn w' bp toks lv vv i d [] vbs) => misplaced_c h' hg)
  have HA' := hide HA
  have htt := ht i
  have hkc := kC_name' htt
  have hnh := named_head (ex := ex) ht (i := i)
  obtain ⟨t, hT⟩ : ∃ t, t = tk toks i := ⟨_, rfl⟩
  rw [← hT] at HN HM hkc HNa hnh
  have HTK := hide hT
  unfold tokVC tokB at HN
  have hz : (kC t.k == 0) = decide (t.k = 97) := hkc
  clear HP HA hkc
  have HW : Hid (Below w.heap.size w (((w.alloc (.cells #[.string ByteArray.empty, .slice none 0 0] 223)).alloc (.cells #[.int .i64 (kC t.k), .string t.t, .int .i64 t.a] 298)).alloc (.cells #[.int .i64 (kC t.k), .string t.t, .int .i64 t.a] 298)).drew ∧
      (RIn w bp toks lv vv i d [] vbs → RIn (((w.alloc (.cells #[.string ByteArray.empty, .slice none 0 0] 223)).alloc (.cells #[.int .i64 (kC t.k), .string t.t, .int .i64 t.a] 298)).alloc (.cells #[.int .i64 (kC t.k), .string t.t, .int .i64 t.a] 298)).drew bp toks lv vv i d [] vbs)) :=
    ⟨((((Below.refl _ _).alloc (Nat.le_refl _) _).alloc (by simp) _).alloc (by simp; omega) _).drew, fun h' => (((h'.alloc _).alloc _).alloc _).drew⟩
  have HK : Hid (∀ {vv3 : Value} {w3 w4 : World}, Fr bp vv vv3 (((w.alloc (.cells #[.string ByteArray.empty, .slice none 0 0] 223)).alloc (.cells #[.int .i64 (kC t.k), .string t.t, .int .i64 t.a] 298)).alloc (.cells #[.int .i64 (kC t.k), .string t.t, .int .i64 t.a] 298)).drew w3 → Below w3.heap.size w3 w4 →
      w4.heap[w.heap.size + 2]? = some (.cells #[.int .i64 (kC t.k), .string t.t, .int .i64 t.a] 298 (0, 0)) ∧ w4.heap[w.heap.size]? = some (.cells #[.string ByteArray.empty, .slice none 0 0] 223 (0, 0))) := fun {vv3 w3 w4} hf hb => by
    have hs := hf.size
    simp at hs
    have hl := h.lt_size
    have hvb : ∀ b, vv.ownBlock = some b → b < w.heap.size := fun b e => h.blt b (.inr (.inr (.inl e)))
    refine ⟨?_, ?_⟩
    · rw [hb.block _ (by omega), hf.block _ (by simp) (by omega) (fun e => by have := hvb _ e; omega)]
      exact heap_top ((w.alloc (.cells #[.string ByteArray.empty, .slice none 0 0] 223)).alloc (.cells #[.int .i64 (kC t.k), .string t.t, .int .i64 t.a] 298)) _ (by simp)
    · rw [hb.block _ (by omega), hf.block _ (by simp; omega) (by omega) (fun e => by have := hvb _ e; omega)]
      show (((w.alloc (.cells #[.string ByteArray.empty, .slice none 0 0] 223)).alloc _).alloc _).heap[w.heap.size]? = _
      rw [Below.heap_alloc _ _ _ (by simp; omega), Below.heap_alloc _ _ _ (by simp)]
      exact heap_alloc_new _ _
  by_cases hk : t.k = 97
  · rw [decide_eq_true hk] at hz
    have hh := hnh hk
    have hall : headAll toks ex i = match headOf toks ex i with | .error e => .error e | .ok (l, s) => if 0 ≤ testsN t.t ∨ t.t.toList = [109, 111, 100] then .error (3, t.a) else .ok (l, s) := by
      unfold headAll; rw [← hT, if_pos hk]
    have HN2 : Hid (∀ (w' : World), RIn w' bp toks lv vv i d [] vbs → Calls Tryz.prog 278 #[ptrV bp] w' fun e w'' => RPost toks bp lv vv d vbs w' (namedOf toks ex (i, [])) e w'') := fun w' h' => HNa.out w' h' hk
    clear hT hnh HNa htt hk
    cases hr : headOf toks ex i with
    | error p =>
      obtain ⟨er, a⟩ := p
      rw [hr] at hh hall
      have hh' : namedOf toks ex (i, []) = .error (er, a) := hh
      rw [hh'] at HN2
      have HN3 : Hid (∀ (w' : World), RIn w' bp toks lv vv i d [] vbs → Calls Tryz.prog 278 #[ptrV bp] w' fun e w'' => RFault er a bp lv vv d w' e w'') := HN2.out
      have HR : Hid (headAll toks ex i = .error (er, a)) := hall
      rw [HR.out]
      clear hh hh' hall hr HN2
      unfold ptrV at *
      go_enter Tryz.func232, Tryz.ntmps232
      go_wp2_with fail
      refine (HN.out _ (h.alloc _)).mono ?_
      rintro e w1 ⟨rfl, rfl⟩
      go_wp2_with fail
      refine (HN3.out _ (HW.out.2 h)).mono ?_
      rintro e w3 hF
      have hF' := hF
      obtain ⟨g, vv', i', h1, rfl, h3⟩ := hF
      exact ⟨rfl, hF'.after (Fr.of_below HW.out.1)⟩
    | ok p =>
      obtain ⟨l, s⟩ := p
      rw [hr] at hh hall
      obtain ⟨x, hx1, hx2, hx3, hx4⟩ := hh
      rw [hx1] at HN2
      have HN3 : Hid (∀ (w' : World), RIn w' bp toks lv vv i d [] vbs → Calls Tryz.prog 278 #[ptrV bp] w' fun e w'' => ∃ (u vv' : Value) (vbs' : List Nat), e = .returned u ∧ TRep w'' (fun b => w'.heap.size ≤ b) vbs' x u ∧ RIn w'' bp toks lv vv' s.1 d s.2 vbs' ∧ vbs <+: vbs' ∧ Fr bp vv vv' w' w'') := HN2.out
      have HAC : Hid (∀ (w' : World) (vbs' : List Nat) (u : Value) (Ok : Nat → Prop), TRep w' Ok vbs' x u → Calls Tryz.prog 284 #[u] w' fun e w'' => Below w'.heap.size w' w'' ∧ ∃ a k c b, e = .returned (.tuple #[.agg #[.string t.t, .slice a k c], .bool b])) := fun w' vbs' u Ok hu => (HA'.out w' vbs' x u Ok hu hx4).mono fun e w'' hp => by
        obtain ⟨g1, a, c, g2⟩ := hp
        rw [hx2] at g2
        exact ⟨g1, a, _, c, _, g2⟩
      obtain ⟨tv, htv⟩ : ∃ v, testsN t.t = v := ⟨_, rfl⟩
      have HAr : Hid (∀ w', Calls Tryz.prog 285 #[.string t.t] w' fun e w'' => e = .returned (.tuple #[.int .i64 (if 0 ≤ tv then tv else 2), .bool (decide (0 ≤ tv))]) ∧ w'' = w') := fun w' => by have := arity_c t.t w'; unfold arV at this; rw [htv] at this; exact this
      rw [htv] at hall
      obtain ⟨md, hmd⟩ : ∃ b, (t.t.toList == [109, 111, 100]) = b := ⟨_, rfl⟩
      have HF := hide newFault_c
      by_cases hbad : 0 ≤ tv ∨ t.t.toList = [109, 111, 100]
      · have HR : Hid (headAll toks ex i = .error (3, t.a)) := by rw [Hid, hall]; simp only [hbad, if_true]
        rw [HR.out]
        clear hall hr HN2 HA' hx1 hx2 hx3 hx4 htv
        unfold ptrV at *
        by_cases hn0 : 0 ≤ tv
        · rw [if_pos hn0, decide_eq_true hn0] at HAr
          clear hbad
          go_enter Tryz.func232, Tryz.ntmps232
          go_wp2_with fail
          refine (HN.out _ (h.alloc _)).mono ?_
          rintro e w1 ⟨rfl, rfl⟩
          go_wp2_with fail
          refine (HN3.out _ (HW.out.2 h)).mono ?_
          rintro e w3 ⟨u3, vv3, vbs3, rfl, q3, r3, p3, f3⟩
          obtain ⟨tu, vu, rfl, _⟩ := q3.form
          go_wp2_with fail
          refine (HAC.out _ _ _ _ q3).mono ?_
          rintro e w4 ⟨hB4, a4, k4, c4, b4, rfl⟩
          have r4 := r3.below hB4
          have f4 := (Fr.of_below HW.out.1).trans (f3.trans (Fr.of_below hB4))
          obtain ⟨hbx, hrx⟩ := HK.out f3 hB4
          obtain ⟨x0, x1, x2, xf⟩ := box3b hbx
          obtain ⟨y0, y1, yf⟩ := box2c hrx
          have hzx : w.heap.size + 2 < w4.heap.size := (Array.getElem?_eq_some_iff.1 hbx).1
          go_wp2_with (first | (go_at_call 285; refine (HAr.out _).mono ?_; rintro e w7 ⟨rfl, rfl⟩) | (go_at_call 154; refine (HF.out _ _ _).mono ?_; rintro e w7 ⟨g, hg2, rfl, hcell, hB7⟩))
          exact ⟨rfl, ((r4.alloc _).faulted hg2 hcell hB7).after (f4.alloc _)⟩
        · rw [if_neg hn0, decide_eq_false hn0] at HAr
          have hm2 : md = true := by rcases hbad with q | q; exact absurd q hn0; rw [← hmd, q]; rfl
          subst hm2
          clear hbad
          go_enter Tryz.func232, Tryz.ntmps232
          go_wp2_with fail
          refine (HN.out _ (h.alloc _)).mono ?_
          rintro e w1 ⟨rfl, rfl⟩
          go_wp2_with fail
          refine (HN3.out _ (HW.out.2 h)).mono ?_
          rintro e w3 ⟨u3, vv3, vbs3, rfl, q3, r3, p3, f3⟩
          obtain ⟨tu, vu, rfl, _⟩ := q3.form
          go_wp2_with fail
          refine (HAC.out _ _ _ _ q3).mono ?_
          rintro e w4 ⟨hB4, a4, k4, c4, b4, rfl⟩
          have r4 := r3.below hB4
          have f4 := (Fr.of_below HW.out.1).trans (f3.trans (Fr.of_below hB4))
          obtain ⟨hbx, hrx⟩ := HK.out f3 hB4
          obtain ⟨x0, x1, x2, xf⟩ := box3b hbx
          obtain ⟨y0, y1, yf⟩ := box2c hrx
          have hzx : w.heap.size + 2 < w4.heap.size := (Array.getElem?_eq_some_iff.1 hbx).1
          go_wp2_with (first | (go_at_call 285; refine (HAr.out _).mono ?_; rintro e w7 ⟨rfl, rfl⟩) | (go_at_call 154; refine (HF.out _ _ _).mono ?_; rintro e w7 ⟨g, hg2, rfl, hcell, hB7⟩))
          exact ⟨rfl, ((r4.alloc _).faulted hg2 hcell hB7).after (f4.alloc _)⟩
      · have hn0 : ¬ 0 ≤ tv := fun q => hbad (.inl q)
        have hm2 : md = false := by
          cases md with
          | false => rfl
          | true => exact absurd (.inr (by simpa using hmd)) hbad
        subst hm2
        rw [if_neg hn0, decide_eq_false hn0] at HAr
        have HR : Hid (headAll toks ex i = .ok (l, s)) := by rw [Hid, hall]; simp only [hbad, if_false]
        rw [HR.out]
        clear hall hr HN2 HA' hx1 hx2 hx3 hx4 htv hbad
        unfold ptrV at *
        go_enter Tryz.func232, Tryz.ntmps232
        go_wp2_with fail
        refine (HN.out _ (h.alloc _)).mono ?_
        rintro e w1 ⟨rfl, rfl⟩
        go_wp2_with fail
        refine (HN3.out _ (HW.out.2 h)).mono ?_
        rintro e w3 ⟨u3, vv3, vbs3, rfl, q3, r3, p3, f3⟩
        obtain ⟨tu, vu, rfl, _⟩ := q3.form
        go_wp2_with fail
        refine (HAC.out _ _ _ _ q3).mono ?_
        rintro e w4 ⟨hB4, a4, k4, c4, b4, rfl⟩
        have r4 := r3.below hB4
        have f4 := (Fr.of_below HW.out.1).trans (f3.trans (Fr.of_below hB4))
        obtain ⟨hbx, hrx⟩ := HK.out f3 hB4
        obtain ⟨x0, x1, x2, xf⟩ := box3b hbx
        obtain ⟨y0, y1, yf⟩ := box2c hrx
        have hzx : w.heap.size + 2 < w4.heap.size := (Array.getElem?_eq_some_iff.1 hbx).1
        have r9 := (r4.setT (j := 0) (u := .string t.t) hrx (by decide) (by decide) (by decide) (by decide)).setT (j := 1) (u := .slice a4 k4 c4) (heap_setCell_same hrx) (by decide) (by decide) (by decide) (by decide)
        have f9 := (f4.setNew (p := ⟨w.heap.size, 0, none⟩) (Nat.le_refl _) (.string t.t)).setNew (p := ⟨w.heap.size, 1, none⟩) (Nat.le_refl _) (.slice a4 k4 c4)
        have hz4 : w.heap.size < w4.heap.size := by omega
        go_wp2_with (first | (go_at_call 285; refine (HAr.out _).mono ?_; rintro e w7 ⟨rfl, rfl⟩))
        exact bodyPost_ret (v := .agg #[.string t.t, .slice a4 k4 c4]) (by simp [results, Tryz.results232, go_sem, y0, y1, hz4]) rfl ⟨_, _, _, _, vv3, vbs3, rfl, r9.alloc _, f9.alloc _⟩
  · rw [decide_eq_false hk] at hz
    have HR : Hid (headAll toks ex i = .error (2, t.a)) := by unfold Hid headAll; rw [← hT, if_neg hk]
    rw [HR.out]
    clear hT hnh HNa htt hk
    unfold ptrV at *
    go_enter Tryz.func232, Tryz.ntmps232
    go_wp2_with fail
    refine (HN.out _ (h.alloc _)).mono ?_
    rintro e w1 ⟨rfl, rfl⟩
    go_wp2_with fail
    refine (HM.out _ (HW.out.2 h)).mono ?_
    rintro e w3 ⟨g, hg2, rfl, hcell, hB3⟩
    go_wp2_with fail
    exact ⟨rfl, ((HW.out.2 h).faulted hg2 hcell hB3).after (Fr.of_below HW.out.1)⟩
def ClP (toks : List Tok) (bp : Nat) (lv : Value) (w : World) (r : R Cl) (e : Ending) (w' : World) : Prop :=
  match r with
  | .error (er, a) => RFault er a bp lv (.slice none 0 0) 0 w e w'
  | .ok (_, s) => ∃ (n : ByteArray) (a : Option Addr) (k c : Nat) (t : TypeId) (v : Value) (va : Option Addr) (vn vc : Nat) (vv' : Value) (vbs' : List Nat), e = .returned (.agg #[.string n, .slice a k c, .iface t v, .slice va vn vc]) ∧ RIn w' bp toks lv vv' s.1 0 s.2 vbs' ∧ Fr bp (.slice none 0 0) vv' w w'
theorem ClP.errI {toks : List Tok} {bp : Nat} {lv : Value} {w : World} {r : R Cl} {er : Int} {a : Nat} {e : Ending} {w' : World} (hr : r = .error (er, a)) (h : RFault er a bp lv (.slice none 0 0) 0 w e w') : ClP toks bp lv w r e w' := by subst hr; exact h
theorem ClP.eqI {toks : List Tok} {bp : Nat} {lv : Value} {w : World} {r r' : R Cl} {e : Ending} {w' : World} (hr : r = r') (h : ClP toks bp lv w r' e w') : ClP toks bp lv w r e w' := by subst hr; exact h
theorem RIn.anew {w : World} {bp : Nat} {toks : List Tok} {lv vv : Value} {i : Nat} {d : Int} {vars : List ByteArray} {vbs : List Nat} (h : RIn w bp toks lv vv i d vars vbs) : RIn (w.setCell ⟨bp, 3, none⟩ (.slice none 0 0)) bp toks lv (.slice none 0 0) i d [] [] := by
  have hne : ∀ b, b ≠ bp → (w.setCell ⟨bp, 3, none⟩ (.slice none 0 0)).heap[b]? = w.heap[b]? := fun b hb => Below.heap_setCell _ _ _ _ hb
  exact ⟨by rw [heap_setCell_same h.cells]; rfl, ownsRow_keep h.l fun b e => hne b fun q => h.lb (by rw [← q]; exact e), World.ownsRow_nil _ _ _ _, h.lb, by simp [Value.ownBlock], .inl rfl, h.lt, rfl, by simp, by simp, by simp⟩
theorem takes_b {w : World} {bp : Nat} {toks : List Tok} {lv vv : Value} {i : Nat} {d : Int} {vars : List ByteArray} {vbs : List Nat} (h : RIn w bp toks lv vv i d vars vbs) (hg : GoodToks toks) (ht : TTs toks) {s : List UInt8} (hs : SignLike s) :
    Calls Tryz.prog 201 #[ptrV bp, .string (B s)] w fun e w' => ∃ b, e = .returned (.bool b) ∧ b = isT (tk toks i) s ∧ RIn w' bp toks lv vv (if b then i + 1 else i) d vars vbs ∧ Fr bp vv vv w w' := by
  have hi := ht.is i hs
  by_cases hq : (tk toks i).t = B s
  · refine (takes_y h hg ht hs.1 hq).mono ?_
    rintro e w' ⟨rfl, h1, h2⟩
    exact ⟨true, rfl, by rw [hi, decide_eq_true hq], h1, h2⟩
  · refine (takes_n h hg ht hq).mono ?_
    rintro e w' ⟨rfl, h1, h2⟩
    exact ⟨false, rfl, by rw [hi, decide_eq_false hq], h1, h2⟩
theorem RIn.set4T {w : World} {bp : Nat} {toks : List Tok} {lv vv : Value} {i : Nat} {d : Int} {vars : List ByteArray} {vbs : List Nat} (h : RIn w bp toks lv vv i d vars vbs) {g : Nat} {cs : Array Value} (hg : w.heap[g]? = some (.cells cs 228 (0, 0))) (x0 x1 x2 x3 : Value) : RIn (set4 w g x0 x1 x2 x3) bp toks lv vv i d vars vbs :=
  h.keep fun b e => set4_other _ _ _ _ _ _ _ fun q => h.no_T hg (by decide) (by decide) (by decide) (by decide) (by rw [q] at e; exact e)
structure ClAt (toks : List Tok) (bp : Nat) (lv : Value) (w : World) (body : St → R Bd) (s : St) (rb : Nat) (n : ByteArray) (a : Option Addr) (k c : Nat) (wx : World) (tt : TypeId) (v vv5 : Value) (vbs5 : List Nat) (s5 : St) (b5 : Bd) : Prop where
  eq : tailOf toks body s = .ok (b5, s5)
  rin : RIn wx bp toks lv vv5 s5.1 0 s5.2 vbs5
  fr : Fr bp (.slice none 0 0) vv5 w wx
  read : wx.heap[rb]? = some (.cells #[.string n, .slice a k c, .iface tt v, .slice none 0 0] 228 (0, 0))
  res : wx.heap[w.heap.size]? = some (.cells #[.string ByteArray.empty, .slice none 0 0, .nilIface, .slice none 0 0] 228 (0, 0))
def clZero : Array Value := #[.string ByteArray.empty, .slice none 0 0, .nilIface, .slice none 0 0]
theorem clause_c {toks : List Tok} (hg : GoodToks toks) (ht : TTs toks) {ex : St → R Ex} (hpo : PartOk toks ex) (HP : RReads 139 toks 0 ex) (HA : AsCallOk) {body : St → R Bd} (HB : GReads 158 toks 0 body)
    (w : World) (bp : Nat) (lv vv : Value) (st : St) (vbs : List Nat) (h : RIn w bp toks lv vv st.1 0 st.2 vbs) :
    Calls Tryz.prog 187 #[ptrV bp] w fun e w' => ClP toks bp lv w (clauseOf toks ex body st.1) e w' := by
  have h0 := h.anew.alloc (.cells clZero 228)
  have HH := hide (fun (w' : World) (h' : RIn w' bp toks lv (.slice none 0 0) st.1 0 [] []) => head_c hg ht hpo HP HA w' bp lv (.slice none 0 0) st.1 [] h')
  have HB' := hide HB
  have hc3 := h.c3
  have hf3 := h.fz 3
  have hbz := h.lt_size
  have f0 : Fr bp (.slice none 0 0) (.slice none 0 0) w ((w.setCell ⟨bp, 3, none⟩ (.slice none 0 0)).alloc (.cells clZero 228)) := ((Fr.refl _ _ _).setBp _ _).alloc _
  have hcl := clauseOf_eq toks ex body st.1
  obtain ⟨total, htot⟩ : ∃ t, clauseOf toks ex body st.1 = t := ⟨_, rfl⟩
  rw [htot] at hcl ⊢
  clear htot HP HA HB
  cases hr : headAll toks ex st.1 with
  | error p =>
    obtain ⟨er, a⟩ := p
    rw [hr] at hcl HH
    have HR : Hid (total = .error (er, a)) := hcl
    have HH' : Hid (∀ w', RIn w' bp toks lv (.slice none 0 0) st.1 0 [] [] → Calls Tryz.prog 232 #[ptrV bp] w' fun e w'' => RFault er a bp lv (.slice none 0 0) 0 w' e w'') := HH.out
    rw [HR.out]
    clear hr hcl HH HB'
    unfold ptrV at *
    go_enter Tryz.func187, Tryz.ntmps187
    go_wp2_with fail
    refine (HH'.out _ h0).mono ?_
    rintro e w3 hF
    have hF' := hF
    obtain ⟨g, vv', i', h1, rfl, h3⟩ := hF
    exact ⟨rfl, hF'.after f0⟩
  | ok p =>
    obtain ⟨l, s⟩ := p
    rw [hr] at hcl HH
    have HH' : Hid (∀ w', RIn w' bp toks lv (.slice none 0 0) st.1 0 [] [] → Calls Tryz.prog 232 #[ptrV bp] w' fun e w'' => ∃ (n : ByteArray) (a : Option Addr) (k c : Nat) (vv' : Value) (vbs' : List Nat), e = .returned (.agg #[.string n, .slice a k c]) ∧ RIn w'' bp toks lv vv' s.1 0 s.2 vbs' ∧ Fr bp (.slice none 0 0) vv' w' w'') := HH.out
    have HR : Hid (total = pointOf toks (tk toks st.1).t l (tailOf toks body s)) := hcl
    clear hr hcl HH
    unfold ptrV at *
    go_enter Tryz.func187, Tryz.ntmps187
    go_wp2_with fail
    refine (HH'.out _ h0).mono ?_
    rintro e w3 ⟨n3, a3, k3, c3, vv3, vbs3, rfl, r3, f3⟩
    have hres3 : w3.heap[w.heap.size]? = some (.cells clZero 228 (0, 0)) := by
      have e : (w.setCell ⟨bp, 3, none⟩ (.slice none 0 0)).heap.size = w.heap.size := by simp [World.setCell]
      rw [f3.block _ (by simp [World.setCell]) (by omega) (by simp [Value.ownBlock]), ← e]
      exact heap_alloc_new _ _
    have hz3 : w.heap.size < w3.heap.size := (Array.getElem?_eq_some_iff.1 hres3).1
    have r4 := (r3.alloc (.cells #[] 225)).alloc (.cells #[.string n3, .slice a3 k3 c3, .iface 405 (.slice (some ⟨w3.heap.size, 0, none⟩) 0 0), .slice none 0 0] 228)
    have f34 := ((Fr.refl bp vv3 w3).alloc (.cells #[] 225)).alloc (.cells #[.string n3, .slice a3 k3 c3, .iface 405 (.slice (some ⟨w3.heap.size, 0, none⟩) 0 0), .slice none 0 0] 228)
    have hrd4 : ∀ (vv5 : Value) (w5 : World), Fr bp vv3 vv5 ((w3.alloc (.cells #[] 225)).alloc (.cells #[.string n3, .slice a3 k3 c3, .iface 405 (.slice (some ⟨w3.heap.size, 0, none⟩) 0 0), .slice none 0 0] 228)) w5 →
        w5.heap[w3.heap.size + 1]? = some (.cells #[.string n3, .slice a3 k3 c3, .iface 405 (.slice (some ⟨w3.heap.size, 0, none⟩) 0 0), .slice none 0 0] 228 (0, 0)) ∧ w5.heap[w.heap.size]? = some (.cells clZero 228 (0, 0)) := fun vv5 w5 hf => by
      have hs := hf.size
      simp at hs
      have hl := r3.lt_size
      have hvb : ∀ b, vv3.ownBlock = some b → b < w3.heap.size := fun b e => r3.blt b (.inr (.inr (.inl e)))
      refine ⟨?_, ?_⟩
      · rw [hf.block _ (by simp) (by omega) (fun e => by have := hvb _ e; omega)]
        have := heap_alloc_new (w3.alloc (.cells #[] 225)) (.cells #[.string n3, .slice a3 k3 c3, .iface 405 (.slice (some ⟨w3.heap.size, 0, none⟩) 0 0), .slice none 0 0] 228)
        rw [show (w3.alloc (.cells #[] 225)).heap.size = w3.heap.size + 1 by simp] at this
        exact this
      · have hno := r3.no_T hres3 (by decide) (by decide) (by decide) (by decide)
        rw [hf.block _ (by simp; omega) (by omega) (fun e => hno (.inr (.inr (.inl e)))), Below.heap_alloc _ _ _ (by simp; omega), Below.heap_alloc _ _ _ hz3]
        exact hres3
    have HRD := hide hrd4
    clear hrd4
    have f4 := (f0.trans f3).trans f34
    have HTB := hide (takes_b r4 hg ht (s := [58, 45]) (by unfold SignLike; decide))
    unfold ptrV at HTB
    go_wp2_with fail
    refine HTB.out.mono ?_
    rintro e w5 ⟨b, rfl, hb, r5, f5⟩
    have HBT := hide hb
    clear hb
    go_upto_if 13 with fail
    go_cut [] (fun wx => ∃ (tt : TypeId) (v vv5 : Value) (vbs5 : List Nat) (s5 : St) (b5 : Bd), ClAt toks bp lv w body s (w3.heap.size + 1) n3 a3 k3 c3 wx tt v vv5 vbs5 s5 b5)
    case first =>
      cases b with
      | false =>
        obtain ⟨g1, g2⟩ := HRD.out _ _ f5
        have hA : ClAt toks bp lv w body s (w3.heap.size + 1) n3 a3 k3 c3 w5 405 (.slice (some ⟨w3.heap.size, 0, none⟩) 0 0) vv3 vbs3 s trueB :=
          ⟨by unfold tailOf; rw [if_neg (by rw [← HBT.out]; simp)], r5, f4.trans f5, g1, g2⟩
        go_wp2_with fail
        go_meet
        case rel => exact ⟨_, _, _, _, _, _, hA⟩
      | true =>
        have htl : tailOf toks body s = body (s.1 + 1, s.2) := by unfold tailOf; rw [if_pos (by rw [← HBT.out])]
        cases hb2 : body (s.1 + 1, s.2) with
        | error p =>
          obtain ⟨er, a⟩ := p
          have HE : Hid (total = .error (er, a)) := by rw [Hid, HR.out, htl, hb2]; rfl
          have H2 := hide (HB'.out.err hb2 r5)
          clear hb2 htl HB'
          go_wp2_with fail
          refine H2.out.mono ?_
          rintro e w6 hF
          have hF' := hF
          obtain ⟨g, vv', i', h1, rfl, h3⟩ := hF
          exact ⟨rfl, .errI HE.out (hF'.after (f4.trans f5))⟩
        | ok p =>
          obtain ⟨b5, s5⟩ := p
          have H2 := hide (HB'.out.ok hb2 r5)
          have HTL : Hid (tailOf toks body s = .ok (b5, s5)) := htl.trans hb2
          clear hb2 htl HB'
          go_wp2_with fail
          refine H2.out.mono ?_
          rintro e w6 ⟨t6, v6, vv6, vbs6, rfl, r6, p6, f6⟩
          obtain ⟨g1, g2⟩ := HRD.out _ _ (f5.trans f6)
          obtain ⟨d0, d1, d2, d3, df⟩ := box4 g1
          have hz6 : w3.heap.size + 1 < w6.heap.size := (Array.getElem?_eq_some_iff.1 g1).1
          have hA : ClAt toks bp lv w body s (w3.heap.size + 1) n3 a3 k3 c3 (w6.setCell ⟨w3.heap.size + 1, 2, none⟩ (.iface t6 v6)) t6 v6 vv6 vbs6 s5 b5 :=
            ⟨HTL.out, r6.setT g1 (by decide) (by decide) (by decide) (by decide), ((f4.trans f5).trans f6).setNew (p := ⟨w3.heap.size + 1, 2, none⟩) (by show w.heap.size ≤ w3.heap.size + 1; omega) _, heap_setCell_same g1, (Below.heap_setCell _ _ _ _ (show w.heap.size ≠ w3.heap.size + 1 by omega)).trans g2⟩
          go_wp2_with fail
          go_meet
          case rel => exact ⟨_, _, _, _, _, _, hA⟩
    case rest =>
      clear HTB HBT r5 f5 r4 f34 f4 HRD hres3
      obtain ⟨tt, v, vv5, vbs5, s5, b5, hA⟩ := hcut
      obtain ⟨vo, vcap, hvv⟩ := row_form hA.rin.vrow
      have hi := ht.is s5.1 (s := [46]) (by unfold SignLike; decide)
      by_cases hq : (tk toks s5.1).t = B [46]
      · have HE : Hid (total = .ok (⟨(tk toks st.1).t, l, b5, s5.2⟩, (s5.1 + 1, s5.2))) := by rw [Hid, HR.out, hA.eq]; unfold pointOf mustT; dsimp only; rw [hi, decide_eq_true hq, if_pos rfl]
        have HM := hide (must_y hA.rin hg ht (s := [46]) (by simp) hq)
        clear hq hi
        unfold ptrV at *
        go_wp2_with fail
        refine HM.out.mono ?_
        rintro e w7 ⟨rfl, r7, f7⟩
        have hn1 := hA.rin.no_T hA.read (by decide) (by decide) (by decide) (by decide)
        have hn2 := hA.rin.no_T hA.res (by decide) (by decide) (by decide) (by decide)
        have g1 := (f7.block _ (Array.getElem?_eq_some_iff.1 hA.read).1 (fun e => hn1 (.inl e)) (fun e => hn1 (.inr (.inr (.inl e))))).trans hA.read
        have g2 := (f7.block _ (Array.getElem?_eq_some_iff.1 hA.res).1 (fun e => hn2 (.inl e)) (fun e => hn2 (.inr (.inr (.inl e))))).trans hA.res
        obtain ⟨d0, d1, d2, d3, df⟩ := box4 g1
        obtain ⟨y0, y1, y2, y3, yf⟩ := box4 g2
        have hz7 : w3.heap.size + 1 < w7.heap.size := (Array.getElem?_eq_some_iff.1 g1).1
        have q3 := r7.c3
        have hbz7 := r7.lt_size
        rw [hvv] at q3
        have r8 := r7.setT (j := 3) (u := .slice vo vbs5.length vcap) g1 (by decide) (by decide) (by decide) (by decide)
        have g3 : (w7.setCell ⟨w3.heap.size + 1, 3, none⟩ (.slice vo vbs5.length vcap)).heap[w.heap.size]? = _ := (Below.heap_setCell _ _ _ _ (show w.heap.size ≠ w3.heap.size + 1 by omega)).trans g2
        have r9 := r8.set4T g3 (.string n3) (.slice a3 k3 c3) (.iface tt v) (.slice vo vbs5.length vcap)
        have f9 := ((hA.fr.trans f7).setNew (p := ⟨w3.heap.size + 1, 3, none⟩) (by show w.heap.size ≤ w3.heap.size + 1; omega) (.slice vo vbs5.length vcap)).set4 (b := w.heap.size) (Nat.le_refl _) (.string n3) (.slice a3 k3 c3) (.iface tt v) (.slice vo vbs5.length vcap)
        have HP9 : Hid (ClP toks bp lv w (.ok (⟨(tk toks st.1).t, l, b5, s5.2⟩, (s5.1 + 1, s5.2))) (.returned (.agg #[.string n3, .slice a3 k3 c3, .iface tt v, .slice vo vbs5.length vcap])) (set4 (w7.setCell ⟨w3.heap.size + 1, 3, none⟩ (.slice vo vbs5.length vcap)) w.heap.size (.string n3) (.slice a3 k3 c3) (.iface tt v) (.slice vo vbs5.length vcap))) :=
          ⟨_, _, _, _, _, _, _, _, _, vv5, vbs5, rfl, r9, f9⟩
        clear r8 g3 r9 f9
        go_wp2_with fail
        exact bodyPost_ret (v := .agg #[.string n3, .slice a3 k3 c3, .iface tt v, .slice vo vbs5.length vcap]) (by simp [results, Tryz.results187, go_sem, y0, y1, y2, y3]) rfl (.eqI HE.out HP9.out)
      · have HE : Hid (total = .error (2, (tk toks s5.1).a)) := by rw [Hid, HR.out, hA.eq]; unfold pointOf mustT; dsimp only; rw [hi, decide_eq_false hq, if_neg (by simp)]
        have HM := hide (must_n hA.rin hg ht (s := [46]) hq)
        clear hq hi
        unfold ptrV at *
        go_wp2_with fail
        refine HM.out.mono ?_
        rintro e w7 hF
        have hF' := hF
        obtain ⟨g, vv', i', h1, rfl, h3⟩ := hF
        exact ⟨rfl, .errI HE.out (hF'.after hA.fr)⟩
end Go.Proofs.YtodpkdajbnceoaaGreatDoor

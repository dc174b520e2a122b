import Derived.Test.YtodpkdajbnceoaaGreatDoorPart29
import Derived.Test.YtodpkdajbnceoaaGreatDoorPart07
import Derived.Deep.RegionHeld
import Derived.RangeFuncFrom
import Derived.RangeFuncNested
import Derived.RangeFuncBound
import Derived.RangeFuncCalls
import Derived.RangeFuncLeaves
import Derived.Shelf.Abstract
import Derived.OwnWalkIn
import Derived.TacticsInMore
import Derived.LoopNIn
import Derived.LoopIn
set_option linter.all false
set_option maxHeartbeats 2000000
set_option maxRecDepth 100000
namespace Go.Proofs.YtodpkdajbnceoaaGreatDoor
open Go.RowKit
theorem wp_scope_lab {P : Program} {a : Act} {w : World} {Q : Exit → Act → World → Prop} {x rest : Code} (l : Nat) (J : Act → World → Prop) (μ : Act → World → Nat)
    (hf : findLabel (x.seq ((Code.label l).seq rest)) l = some (Code.skip.seq rest))
    (first : x.wp P (Exit.then J (Exit.noGoto Q)) a w)
    (pass : ∀ a w, J a w → rest.wp P (Exit.jump l (fun a' w' => J a' w' ∧ μ a' w' < μ a w) Q) a w) : (Code.scope (x.seq ((Code.label l).seq rest))).wp P Q a w := by
  refine wp_scope_jumps l J μ hf ?_ (fun a w h => wp_seq (wp_skip (pass a w h)))
  refine wp_seq (wp_mono first fun e a w h => ?_)
  cases e with
  | normal =>
    refine wp_seq (wp_label ?_)
    refine wp_mono (pass a w h) fun e a w h => ?_
    cases e <;> first | exact h | exact ⟨h.1, h.2.1⟩
  | goto l' => exact h.elim
  | ret => exact h
  | exit id => exact h
  | panic c => exact h
  | outgrown => exact h
def posOf (w : World) (bp : Nat) : Nat := match w.cell? ⟨bp, 1, none⟩ with | some (.int _ n) => n.toNat | _ => 0
theorem posOf_eq {w : World} {bp : Nat} {toks : List Tok} {lv vv : Value} {i : Nat} {d : Int} {vars : List ByteArray} {vbs : List Nat} (h : RIn w bp toks lv vv i d vars vbs) : posOf w bp = i := by
  unfold posOf; rw [h.c1]; simp
def RReads (fn : Nat) (toks : List Tok) (d : Int) (r : St → R Ex) : Prop :=
  ∀ (w : World) (bp : Nat) (lv vv : Value) (st : St) (vbs : List Nat), RIn w bp toks lv vv st.1 d st.2 vbs →
    Calls Tryz.prog fn #[ptrV bp] w fun e w' => RPost toks bp lv vv d vbs w (r st) e w'
theorem prim_enter (args : Array Value) (w : World) : (callFunc 226 args).run Tryz.prog w = .ok (.enter 226 args) w := by simp [go_sem]
theorem product_enter (args : Array Value) (w : World) : (callFunc 181 args).run Tryz.prog w = .ok (.enter 181 args) w := by simp [go_sem]
theorem tkeeps_below {w w' : World} {Ok : Nat → Prop} (h : Below w.heap.size w w') : TKeeps Ok w w' := fun b _ _ _ hb => by
  rw [h.block b (Array.getElem?_eq_some_iff.1 hb).1]; exact hb
theorem TRep.two {w : World} {Ok : Nat → Prop} {vbs : List Nat} {x y : Ex} {u u2 : Value} (n : ByteArray) (hx : TRep w Ok vbs x u) (hy : TRep w Ok vbs y u2) (ho : Ok w.heap.size) :
    TRep ((w.alloc (.cells #[u, u2] 185)).alloc (.cells #[.string n, .slice (some ⟨w.heap.size, 0, none⟩) 2 2, .slice none 0 0, .map none] 399)) Ok vbs (.cmp n [x, y]) (.iface 342 (ptrV (w.heap.size + 1))) := by
  have hB : Below w.heap.size w ((w.alloc (.cells #[u, u2] 185)).alloc (.cells #[.string n, .slice (some ⟨w.heap.size, 0, none⟩) 2 2, .slice none 0 0, .map none] 399)) := ((Below.refl _ _).alloc (Nat.le_refl _) _).alloc (by simp) _
  have hk := tkeeps_below (Ok := Ok) hB
  refine .cmp n [x, y] (w.heap.size + 1) w.heap.size 2 #[u, u2] [u, u2] ?_ ho ?_ (by simp) (by unfold maxLen; omega) rfl rfl (.cons _ _ _ _ (hx.frame hk (fun _ h _ => h) (List.prefix_refl _)) (.cons _ _ _ _ (hy.frame hk (fun _ h _ => h) (List.prefix_refl _)) .nil)) (by simp)
  · have := heap_alloc_new (w.alloc (.cells #[u, u2] 185)) (.cells #[.string n, .slice (some ⟨w.heap.size, 0, none⟩) 2 2, .slice none 0 0, .map none] 399)
    rwa [World.size_alloc] at this
  · rw [Below.heap_alloc _ _ _ (by simp)]; exact heap_alloc_new w _
theorem cell_alloc1 {w : World} {p : Addr} {u : Value} (h : w.cell? p = some u) : ∀ o, (w.alloc o).cell? p = some u := fun o => by
  rw [World.cell?_alloc_lt _ _ _ (World.block_lt_of_cell? _ _ h)]; exact h
theorem ops_fuel {toks : List Tok} {part : St → R Ex} {isOp : Tok → Bool} {f : Nat} {x : Ex} {st : St} (h : isOp (tk toks st.1) = false) : opsLoop toks part isOp f x st = .ok (x, st) := by
  cases f with
  | zero => rfl
  | succ f => rw [opsLoop, if_neg (by simp [h])]
structure OpsAt (toks : List Tok) (part : St → R Ex) (isOp : Tok → Bool) (total : R Ex) (bp : Nat) (lv vv : Value) (d : Int) (vbs : List Nat) (w0 : World) (u : Value) (w : World) (x : Ex) (st1 : St) (vv1 : Value) (vbs1 : List Nat) (f : Nat) : Prop where
  rep : TRep w (fun b => w0.heap.size ≤ b) vbs1 x u
  rin : RIn w bp toks lv vv1 st1.1 d st1.2 vbs1
  pre : vbs <+: vbs1
  fr : Fr bp vv vv1 w0 w
  fuel : toks.length - st1.1 ≤ f
  eq : opsLoop toks part isOp f x st1 = total
theorem ops_c {toks : List Tok} {d : Int} (hg : GoodToks toks) (ht : TTs toks) (fp : Nat) (part : St → R Ex) (isOp : Tok → Bool) (str : Int) (hop : ∀ i, isOp (tk toks i) = decide (ssS (tk toks i).t = str)) (hpo : PartOk toks part)
    (hs3 : str = 1 ∨ str = 2) (hcf : ∀ args w, (callFunc fp args).run Tryz.prog w = .ok (.enter fp args) w) (HP : RReads fp toks d part) (w : World) (bp : Nat) (lv vv : Value) (st : St) (vbs : List Nat) (h : RIn w bp toks lv vv st.1 d st.2 vbs) :
    Calls Tryz.prog 180 #[ptrV bp, .int .i64 str, .func (.func fp) #[ptrV bp] #[]] w fun e w' =>
      RPost toks bp lv vv d vbs w (match part st with | .error e => .error e | .ok (x, st') => opsLoop toks part isOp toks.length x st') e w' := by
  have HP' := hide HP
  cases hp : part st with
  | error p =>
    obtain ⟨er, a⟩ := p
    have HC : Hid (Calls Tryz.prog fp #[ptrV bp] w fun e w' => RFault er a bp lv vv d w e w') := (HP w bp lv vv st vbs h).mono fun e w' h => by rw [hp] at h; exact h
    unfold ptrV at *
    go_enter Tryz.func180, Tryz.ntmps180
    go_wp2
    refine wp_scope_lab 0 (fun _ _ => False) (fun _ _ => 0) ?hf ?_ (fun _ _ h => h.elim)
    case hf => rfl
    go_wp2
    refine HC.out.mono ?_
    rintro e w1 hF
    have hF' := hF
    obtain ⟨g, vv', i', h1, rfl, h3⟩ := hF
    exact ⟨rfl, hF'⟩
  | ok p =>
    obtain ⟨x0, st0⟩ := p
    have HC : Hid (Calls Tryz.prog fp #[ptrV bp] w fun e w' => ∃ (u vv' : Value) (vbs' : List Nat), e = .returned u ∧ TRep w' (fun b => w.heap.size ≤ b) vbs' x0 u ∧ RIn w' bp toks lv vv' st0.1 d st0.2 vbs' ∧ vbs <+: vbs' ∧ Fr bp vv vv' w w') := (HP w bp lv vv st vbs h).mono fun e w' h => by rw [hp] at h; exact h
    obtain ⟨total, htot⟩ : ∃ total, total = opsLoop toks part isOp toks.length x0 st0 := ⟨_, rfl⟩
    show Calls Tryz.prog 180 _ w fun e w' => RPost toks bp lv vv d vbs w (opsLoop toks part isOp toks.length x0 st0) e w'
    rw [← htot]
    have HTOT := hide htot.symm
    clear htot hp
    have HSS := hide signStrength_c
    have hgp := hg
    have hsm := hg.small
    unfold ptrV at *
    go_enter Tryz.func180, Tryz.ntmps180
    go_wp2
    refine wp_scope_lab 0 (fun a w1 => ∃ (u : Value) (x : Ex) (st1 : St) (vv1 : Value) (vbs1 : List Nat) (f : Nat) (u8 u9 u10 u11 u12 u13 u14 u15 u16 u17 u18 u19 u20 u21 u22 u23 u24 u25 u26 u27 u28 : Value), a = { tmps := #[.pointer (some ⟨bp, 0, none⟩), .int .i64 str, .func (.func fp) #[.pointer (some ⟨bp, 0, none⟩)] #[], undef, undef, undef, .nilIface, u, u8, u9, u10, u11, u12, u13, u14, u15, u16, u17, u18, u19, u20, u21, u22, u23, u24, u25, u26, u27, u28, undef], defers := [] } ∧ OpsAt toks part isOp total bp lv vv d vbs w u w1 x st1 vv1 vbs1 f)
      (fun _ w1 => toks.length - posOf w1 bp) ?hf ?_ ?pass
    case hf => rfl
    · go_wp2
      refine HC.out.mono ?_
      rintro e w1 ⟨u, vv', vbs', rfl, h1, h2, h3, h4⟩
      go_wp2
      exact ⟨u, x0, st0, vv', vbs', toks.length, _, _, _, _, _, _, _, _, _, _, _, _, _, _, _, _, _, _, _, _, _, rfl, h1, h2, h3, h4, by omega, HTOT.out⟩
    case pass =>
      rintro a w1 ⟨u, x, st1, vv1, vbs1, f, u8, u9, u10, u11, u12, u13, u14, u15, u16, u17, u18, u19, u20, u21, u22, u23, u24, u25, u26, u27, u28, rfl, hO⟩
      have hR1 := hO.rin
      obtain ⟨tu, vu, rfl, _⟩ := hO.rep.form
      have HN := hide (fun w' (h' : RIn w' bp toks lv vv1 st1.1 d st1.2 vbs1) => now_c h' hg)
      have HT := hide (fun w' (h' : RIn w' bp toks lv vv1 st1.1 d st1.2 vbs1) => take_c h' hg ht)
      have hopt := hop st1.1
      have hst : stepI toks st1.1 = if (tk toks st1.1).k = 101 then st1.1 else st1.1 + 1 := rfl
      have htt := ht st1.1
      unfold ptrV tokVC tokB at HN
      unfold ptrV tokVC at HT
      obtain ⟨t, hT⟩ : ∃ t, t = tk toks st1.1 := ⟨_, rfl⟩
      rw [← hT] at HN HT hopt hst htt
      have HTK := hide hT
      clear hT
      by_cases hq : ssS t.t = str
      · have hop1 : isOp t = true := by rw [hopt]; exact decide_eq_true hq
        have hne : t.k ≠ 101 := fun e => by
          have he := htt.e e
          rw [he] at hq
          have : ssS ByteArray.empty = 3 := by decide
          omega
        rw [if_neg hne] at hst
        rw [hst] at HT
        obtain ⟨f, rfl⟩ : ∃ g, f = g + 1 := ⟨f - 1, by have := hO.fuel; have := hR1.lt; omega⟩
        have hfu := hO.fuel
        have hlt1 := hR1.lt
        have hB : Below w1.heap.size w1 ((w1.alloc (tokB t)).alloc (tokB t)).drew := (((Below.refl _ _).alloc (Nat.le_refl _) _).alloc (by simp) _).drew
        have hR2 := hR1.below hB
        have hbox : ((w1.alloc (tokB t)).alloc (tokB t)).drew.cell? ⟨w1.heap.size + 1, 1, none⟩ = some (.string t.t) := by
          have h9 : ((w1.alloc (tokB t)).alloc (tokB t)).drew.heap[w1.heap.size + 1]? = some (tokB t) := heap_top (w1.alloc (tokB t)) (tokB t) (by simp)
          unfold tokB at h9 ⊢
          rw [cell_of_block h9]; rfl
        have hnv : ¬ vv1.ownBlock = some (w1.heap.size + 1) := fun e => by have := hR1.blt _ (.inr (.inr (.inl e))); omega
        have hnb : ¬ w1.heap.size + 1 = bp := fun e => by have := hR1.lt_size; omega
        unfold tokB at hR2 hbox
        have HEQ := hide hO.eq
        have HO := hide hO
        have HTT := hide (HT.out _ hR2)
        have HBX := hide (fun (w2 : World) (hF : Fr bp vv1 vv1 _ w2) => hF.cell hbox hnb hnv)
        clear hopt hst htt HT hbox hO
        go_upto_region 5 with (first | (go_at_call 156; refine (HN.out _ hR1).mono ?_; rintro e w2 ⟨rfl, rfl⟩) | (go_at_call 224; refine (HSS.out _ _).mono ?_; rintro e w2 ⟨rfl, rfl⟩) | (go_at_call 225; refine HTT.out.mono ?_; rintro e w2 ⟨rfl, hR3, hF3⟩; have hbx := HBX.out w2 hF3))
        have hR4 := hR3.drew
        have hbs4 := hR4.lt_size
        have HFX : Hid (Fr bp vv vv1 w w2.drew) := (HO.out.fr.trans ((Fr.of_below hB).trans hF3)).drew
        have hbx4 : w2.drew.cell? ⟨w1.heap.size + 1, 1, none⟩ = some (.string t.t) := hbx
        cases hpt : part (st1.1 + 1, st1.2) with
        | error p =>
          obtain ⟨er, a⟩ := p
          have HE : Hid (total = .error (er, a)) := by
            have h9 := HEQ.out
            rw [opsLoop, if_pos (by rw [← HTK.out]; exact hop1), hpt] at h9
            exact h9.symm
          have HCe : Hid (Calls Tryz.prog fp #[.pointer (some ⟨bp, 0, none⟩)] w2.drew fun e w' => RFault er a bp lv vv1 d w2.drew e w') := (HP'.out w2.drew bp lv vv1 (st1.1 + 1, st1.2) vbs1 hR4).mono fun e w' h => by rw [hpt] at h; exact h
          clear hpt HP'
          refine wp_region_held_drew (S := fun w' => w'.cell? ⟨w1.heap.size + 1, 1, none⟩ = some (.string t.t)) (by kernel_rfl) hbx4 (fun hS => ?_)
          refine wpAnyH_take (i := 0) (v := .pointer (some ⟨w1.heap.size + 1, 1, none⟩)) rfl (by kernel_rfl) (by kernel_rfl) (by kernel_rfl) (fun _ _ _ h => h) (Or.inl ⟨by rfl, by intro w hSw; (try dsimp only at hSw); go_simp⟩) hS ?_
          (try simp only [Act.put, List.setIfInBounds_toArray, List.set_cons_zero, List.set_cons_succ])
          refine wpAnyH_take (i := 1) (v := .string t.t) rfl (by kernel_rfl) (by kernel_rfl) (by kernel_rfl) (fun _ _ _ h => h) (Or.inl ⟨by rfl, by intro w hSw; (try dsimp only at hSw); go_simp⟩) hS ?_
          (try simp only [Act.put, List.setIfInBounds_toArray, List.set_cons_zero, List.set_cons_succ])
          refine wpAnyH_take (i := 2) (v := .iface tu vu) rfl (by kernel_rfl) (by kernel_rfl) (by kernel_rfl) (fun _ _ _ h => h) (Or.inl ⟨by rfl, by intro w hSw; (try dsimp only at hSw); go_simp⟩) hS ?_
          (try simp only [Act.put, List.setIfInBounds_toArray, List.set_cons_zero, List.set_cons_succ])
          refine wpAnyH_take (i := 3) (v := .func (.func fp) #[.pointer (some ⟨bp, 0, none⟩)] #[]) rfl (by kernel_rfl) (by kernel_rfl) (by kernel_rfl) (fun _ _ _ h => h) (Or.inl ⟨by rfl, by intro w hSw; (try dsimp only at hSw); go_simp⟩) hS ?_
          (try simp only [Act.put, List.setIfInBounds_toArray, List.set_cons_zero, List.set_cons_succ])
          refine wpAnyH_ready (rs := [4]) (by kernel_rfl) (by simp) ?_
          refine AllReadyH.cons rfl (fun K hK => ?_) AllReadyH.nil
          go_simp
          refine HCe.out.mono ?_
          rintro e w3 hF
          have hF' := hF
          obtain ⟨g, vv', i', h1, rfl, h3⟩ := hF
          exact ⟨rfl, .errI HE.out (hF'.after HFX.out)⟩
        | ok p =>
          obtain ⟨y, st2⟩ := p
          have HE : Hid (opsLoop toks part isOp f (.cmp t.t [x, y]) st2 = total) := by
            have h9 := HEQ.out
            rw [opsLoop, if_pos (by rw [← HTK.out]; exact hop1), hpt, ← HTK.out] at h9
            exact h9
          have HG2 := hide (hpo _ _ _ hpt)
          have HCe : Hid (Calls Tryz.prog fp #[.pointer (some ⟨bp, 0, none⟩)] w2.drew fun e w' => ∃ (u vv' : Value) (vbs' : List Nat), e = .returned u ∧ TRep w' (fun b => w2.drew.heap.size ≤ b) vbs' y u ∧ RIn w' bp toks lv vv' st2.1 d st2.2 vbs' ∧ vbs1 <+: vbs' ∧ Fr bp vv1 vv' w2.drew w') := (HP'.out w2.drew bp lv vv1 (st1.1 + 1, st1.2) vbs1 hR4).mono fun e w' h => by rw [hpt] at h; exact h
          clear hpt HP'
          go_region_held (fun w' => w'.cell? ⟨w1.heap.size + 1, 1, none⟩ = some (.string t.t)) (first | assumption | exact cell_alloc1 hbx3 _ | exact cell_alloc1 (cell_alloc1 hbx3 _) _) (first | (refine HCe.out.mono ?_; rintro e w3 ⟨u2, vv3, vbs3, rfl, q1, q2, q3, q4⟩; have hbx3 := q4.cell hbx4 hnb hnv; obtain ⟨tu2, vu2, rfl, _⟩ := q1.form))
          go_wp2
          go_step3
          have hz9 := HFX.out.size
          have hz8 := q4.size
          have hW := TRep.two t.t (HO.out.rep.frame (HO.out.rin.tkeeps ((Fr.of_below hB).trans (hF3.drew.trans q4))) (fun _ h _ => h) q3) (q1.mono (fun b hb _ => Nat.le_trans hz9 hb)) (Nat.le_trans hz9 hz8)
          have hBw : Below w3.heap.size w3 _ := ((Below.refl w3.heap.size w3).alloc (Nat.le_refl _) (.cells #[.iface tu vu, .iface tu2 vu2] 185)).alloc (by simp) (.cells #[.string t.t, .slice (some ⟨w3.heap.size, 0, none⟩) 2 2, .slice none 0 0, .map none] 399)
          have hR5 := q2.below hBw
          have hsz := HG2.out.size
          simp only at hsz
          refine ⟨rfl, ⟨_, _, st2, vv3, vbs3, f, _, _, _, _, _, _, _, _, _, _, _, _, _, _, _, _, _, _, _, _, _, rfl, hW, hR5, HO.out.pre.trans q3, HFX.out.trans (q4.trans (Fr.of_below hBw)), by omega, HE.out⟩, ?_⟩
          rw [posOf_eq hR5, posOf_eq hR1]
          omega
      · have hop0 : Hid (isOp (tk toks st1.1) = false) := by rw [Hid, ← HTK.out, hopt]; exact decide_eq_false hq
        clear hopt hst htt
        go_wp2_with (first | (go_at_call 156; refine (HN.out _ hR1).mono ?_; rintro e w2 ⟨rfl, rfl⟩) | (go_at_call 224; refine (HSS.out _ _).mono ?_; rintro e w2 ⟨rfl, rfl⟩))
        simp only [Exit.jump]
        go_ret
        have hB : Below w1.heap.size w1 ((w1.alloc (tokB t)).alloc (tokB t)).drew := (((Below.refl _ _).alloc (Nat.le_refl _) _).alloc (by simp) _).drew
        exact .okI (hO.eq.symm.trans (ops_fuel hop0.out)) (hO.rep.frame (hR1.tkeeps (Fr.of_below hB)) (fun _ h _ => h) (List.prefix_refl _)) (hR1.below hB) hO.pre (hO.fr.trans (Fr.of_below hB))
theorem Tryz.infoTerm : (Tryz.prog.info? 185).map (fun i => (i.zero, i.size, i.bytes)) = some (some .nilIface, 1, 16) := by kernel_rfl
theorem Tryz.underlyingTerms : Tryz.prog.underlying 221 = some (.slice 185) := by kernel_rfl
def LPost (toks : List Tok) (bp : Nat) (lv vv : Value) (d : Int) (vbs : List Nat) (w : World) (r : R (List Ex)) (e : Ending) (w' : World) : Prop :=
  match r with
  | .error (er, a) => RFault er a bp lv vv d w e w'
  | .ok (l, st) => ∃ (v vv' : Value) (vbs' : List Nat) (us : List Value), e = .returned v ∧ w'.ownsRow w.heap.size 185 1 v l.length us ∧ TRepL w' (fun b => w.heap.size ≤ b ∧ v.ownBlock ≠ some b) vbs' l us ∧
      RIn w' bp toks lv vv' st.1 d st.2 vbs' ∧ vbs <+: vbs' ∧ Fr bp vv vv' w w'
structure RowOn (toks : List Tok) (ex : St → R Ex) (total : R (List Ex)) (bp : Nat) (lv vv : Value) (d : Int) (vbs : List Nat) (w0 : World) (v : Value) (w : World) (acc : List Ex) (us : List Value) (st1 : St) (vv1 : Value) (vbs1 : List Nat) (f : Nat) : Prop where
  own : w.ownsRow w0.heap.size 185 1 v acc.length us
  rep : TRepL w (fun b => w0.heap.size ≤ b ∧ v.ownBlock ≠ some b) vbs1 acc us
  rin : RIn w bp toks lv vv1 st1.1 d st1.2 vbs1
  pre : vbs <+: vbs1
  fr : Fr bp vv vv1 w0 w
  fuel : toks.length - st1.1 < f
  eq : rowOf toks ex f acc st1 = total
  small : acc.length ≤ st1.1
theorem own_tk {w w' : World} {n m : Nat} {v : Value} {us : List Value} (h : w.ownsRow n 185 1 v m us) (hk : TKeeps (fun _ => True) w w') : w'.ownsRow n 185 1 v m us := by
  refine ⟨h.1, ?_⟩
  rcases h.2 with hl | ⟨g, cap, cur, rfl, r1, r2, r3⟩
  · exact .inl hl
  · exact .inr ⟨g, cap, cur, rfl, r1, hk g _ _ (.inr ⟨rfl, trivial⟩) r2, r3⟩
section
variable {w : World} {bp : Nat} {toks : List Tok} {lv vv : Value} {i : Nat} {d : Int} {vars : List ByteArray} {vbs : List Nat}
theorem RIn.no_term (h : RIn w bp toks lv vv i d vars vbs) {g : Nat} {cs : Array Value} (hg : w.heap[g]? = some (.cells cs 185 (0, 0))) : ¬ (g = bp ∨ lv.ownBlock = some g ∨ vv.ownBlock = some g ∨ g ∈ vbs) := by
  rintro (rfl | e | e | e)
  · rw [h.cells] at hg; injection hg with hg; injection hg with _ hg; cases hg
  · rcases h.l.2 with ⟨hl, _⟩ | ⟨g', cap, cur, rfl, _, r2, _⟩
    · rw [hl] at e; cases e
    · cases e; rw [r2] at hg; injection hg with hg; injection hg with _ hg; cases hg
  · rcases h.vrow.2 with ⟨hl, _⟩ | ⟨g', cap, cur, rfl, _, r2, _⟩
    · rw [hl] at e; cases e
    · cases e; rw [r2] at hg; injection hg with hg; injection hg with _ hg; cases hg
  · obtain ⟨k, hk, rfl⟩ := List.getElem_of_mem e
    obtain ⟨n, _, hn⟩ := h.vblk k _ (List.getElem?_eq_getElem hk)
    rw [hn] at hg; injection hg with hg; injection hg with _ hg; cases hg
theorem own_blk {n m : Nat} {v : Value} {us : List Value} (h : w.ownsRow n 185 1 v m us) {b : Nat} (hb : v.ownBlock = some b) : n ≤ b ∧ ∃ cs, w.heap[b]? = some (.cells cs 185 (0, 0)) := by
  rcases h.2 with ⟨hl, _⟩ | ⟨g, cap, cur, rfl, r1, r2, _⟩
  · rw [hl] at hb; cases hb
  · cases hb; exact ⟨r1, cur, r2⟩
theorem row_grow {w0 w2 : World} {v v' : Value} {o : Obj} {us : List Value} {m : Nat} (h : RIn w bp toks lv vv i d vars vbs) (hown : w.ownsRow w0.heap.size 185 1 v m us)
    (hg : (w.alloc o).grownBy w2 v.ownBlock) (hw : w0.heap.size ≤ w.heap.size) (hn : ∀ b, v'.ownBlock = some b → v.ownBlock = some b ∨ (w.alloc o).heap.size ≤ b) :
    RIn w2 bp toks lv vv i d vars vbs ∧ (∀ l us', TRepL w (fun b => w0.heap.size ≤ b ∧ v.ownBlock ≠ some b) vbs l us' → TRepL w2 (fun b => w0.heap.size ≤ b ∧ v'.ownBlock ≠ some b) vbs l us') ∧
      (∀ vv0, Fr bp vv0 vv w0 w → Fr bp vv0 vv w0 w2) := by
  have hkeep : ∀ b, b < w.heap.size → v.ownBlock ≠ some b → w2.heap[b]? = w.heap[b]? := fun b hb hv => by
    rw [hg.block b (by simp; omega) (fun e => hv e.symm), Below.heap_alloc _ _ _ hb]
  have hnv : ∀ b, (b = bp ∨ lv.ownBlock = some b ∨ vv.ownBlock = some b ∨ b ∈ vbs) → v.ownBlock ≠ some b := fun b e hv => by
    obtain ⟨_, cs, hcs⟩ := own_blk hown hv
    exact h.no_term hcs e
  refine ⟨h.keep fun b e => hkeep b (h.blt b e) (hnv b e), fun l us' hr => ?_, fun vv0 hf => ?_⟩
  · refine hr.frame (fun b cs T hT hb => ?_) (fun b hb hlt => ⟨hb.1, fun e => (hn b e).elim hb.2 (fun q => by simp at q; omega)⟩) (List.prefix_refl _)
    rw [hkeep b (Array.getElem?_eq_some_iff.1 hb).1 ?_]
    · exact hb
    · rcases hT with rfl | ⟨rfl, hq⟩
      · intro e
        obtain ⟨_, cs', hcs⟩ := own_blk hown e
        rw [hcs] at hb; injection hb with hb; injection hb with _ hb; cases hb
      · exact hq.2
  · refine ⟨hg.os.trans hf.os, hg.tape.trans hf.tape, hg.output.trans hf.output, by have := hg.size; simp at this; omega, fun b hb1 h1 h2 => ?_, hf.vnew⟩
    rw [hkeep b (by omega) (fun e => by have := (own_blk hown e).1; omega)]
    exact hf.block b hb1 h1 h2
end
theorem row_c {toks : List Tok} {d : Int} (hg : GoodToks toks) (ht : TTs toks) (ex : St → R Ex) (hpo : PartOk toks ex) (HP : RReads 139 toks d ex)
    (w : World) (bp : Nat) (lv vv : Value) (st : St) (vbs : List Nat) (h : RIn w bp toks lv vv st.1 d st.2 vbs) :
    Calls Tryz.prog 332 #[ptrV bp] w fun e w' => LPost toks bp lv vv d vbs w (rowOf toks ex (toks.length + 1) [] st) e w' := by
  have HP' := hide HP
  obtain ⟨i0, hi, hz0, hz1, hz2⟩ := info_parts Tryz.infoTerm
  obtain ⟨total, htot⟩ : ∃ total, total = rowOf toks ex (toks.length + 1) [] st := ⟨_, rfl⟩
  rw [← htot]
  have HTOT := hide htot.symm
  clear htot
  have hsm := hg.small
  have hbp := h.lt_size
  unfold ptrV
  go_enter Tryz.func332, Tryz.ntmps332
  go_wp2
  refine wp_scope_lab 0 (fun a w1 => ∃ (v : Value) (acc : List Ex) (us : List Value) (st1 : St) (vv1 : Value) (vbs1 : List Nat) (f : Nat) (u4 u5 u6 u7 u8 u9 u10 : Value), a = { tmps := #[.pointer (some ⟨bp, 0, none⟩), undef, .slice none 0 0, v, u4, u5, u6, u7, u8, u9, u10, undef], defers := [] } ∧ RowOn toks ex total bp lv vv d vbs w v w1 acc us st1 vv1 vbs1 f)
    (fun _ w1 => toks.length - posOf w1 bp) ?hf ?_ ?pass
  case hf => rfl
  · go_wp2
    exact ⟨.slice none 0 0, [], [], st, vv, vbs, toks.length + 1, _, _, _, _, _, _, _, rfl, World.ownsRow_nil _ _ _ _, .nil, h, List.prefix_refl _, Fr.refl _ _ _, by omega, HTOT.out, by simp⟩
  case pass =>
    rintro a w1 ⟨v, acc, us, st1, vv1, vbs1, f, u4, u5, u6, u7, u8, u9, u10, rfl, hO⟩
    have hR1 := hO.rin
    have hlt1 := hR1.lt
    have hsml := hO.small
    obtain ⟨f, rfl⟩ : ∃ g, f = g + 1 := ⟨f - 1, by have := hO.fuel; omega⟩
    have HO := hide hO
    have HEQ := hide hO.eq
    have hw01 := hO.fr.size
    have hfu := hO.fuel
    clear hO
    cases hpt : ex st1 with
    | error p =>
      obtain ⟨er, a⟩ := p
      have HE : Hid (total = .error (er, a)) := by
        have h9 := HEQ.out
        rw [rowOf, hpt] at h9
        exact h9.symm
      have HCe : Hid (Calls Tryz.prog 139 #[.pointer (some ⟨bp, 0, none⟩)] w1 fun e w' => RFault er a bp lv vv1 d w1 e w') := (HP'.out w1 bp lv vv1 st1 vbs1 hR1).mono fun e w' h => by rw [hpt] at h; exact h
      clear hpt HP'
      go_wp2_with (first | (go_at_call 139; refine HCe.out.mono ?_; rintro e w3 hF; have hF' := hF; obtain ⟨g, vv', i', h1, rfl, h3⟩ := hF))
      refine ⟨rfl, ?_⟩
      rw [HE.out]
      exact hF'.after HO.out.fr
    | ok p =>
      obtain ⟨y, st2⟩ := p
      have HG2 := hide (hpo _ _ _ hpt)
      have HCe : Hid (Calls Tryz.prog 139 #[.pointer (some ⟨bp, 0, none⟩)] w1 fun e w' => ∃ (u vv' : Value) (vbs' : List Nat), e = .returned u ∧ TRep w' (fun b => w1.heap.size ≤ b) vbs' y u ∧ RIn w' bp toks lv vv' st2.1 d st2.2 vbs' ∧ vbs1 <+: vbs' ∧ Fr bp vv1 vv' w1 w') := (HP'.out w1 bp lv vv1 st1 vbs1 hR1).mono fun e w' h => by rw [hpt] at h; exact h
      have HEQ2 : Hid ((if isT (tk toks st2.1) [44] then rowOf toks ex f (acc ++ [y]) (st2.1 + 1, st2.2) else .ok (acc ++ [y], st2)) = total) := by
        have h9 := HEQ.out
        rw [rowOf, hpt] at h9
        exact h9
      clear hpt HP' HEQ
      have hal : acc.length ≤ 2001 := by omega
      go_wp2_with (first | (go_at_call 139; refine HCe.out.mono ?_; rintro e w3 ⟨u2, vv3, vbs3, rfl, q1, q2, q3, q4⟩; obtain ⟨tu2, vu2, rfl, _⟩ := q1.form; have hown3 := own_tk HO.out.own (HO.out.rin.tkeeps q4); have hw3 := q4.size) | (at_builtin; refine wpList_append_own2 rfl _ _ 221 rfl w.heap.size 185 i0 .nilIface 1 16 Tryz.underlyingTerms hi hz0 hz1 hz2 rfl (by decide) v _ _ rfl (hown3.alloc _) _ 1 1 [.iface tu2 vu2] rfl rfl ?c1 ?c2 ?c3 ?c4 ?c5 ?_))
      case c1 => exact cell_one_new _ _ _
      case c2 => intro u hu; simp at hu; subst hu; rfl
      case c3 => unfold maxLen; omega
      case c4 => omega
      case c5 => simp; omega
      intro v' w4 ho hgr hnw
      have hrep3 : TRepL w3 (fun b => w.heap.size ≤ b ∧ v.ownBlock ≠ some b) vbs3 acc us := HO.out.rep.frame (HO.out.rin.tkeeps q4) (fun _ h _ => h) q3
      have hvlt : ∀ b, v.ownBlock = some b → b < w1.heap.size := fun b hb => by
        obtain ⟨_, cs, hcs⟩ := own_blk HO.out.own hb
        exact (Array.getElem?_eq_some_iff.1 hcs).1
      have hrepA := hrep3.snoc (q1.mono (fun b hb _ => ⟨Nat.le_trans hw01 hb, fun e => by have := hvlt b e; omega⟩))
      obtain ⟨k1, k2, k3⟩ := row_grow (w0 := w) (v' := v') q2 hown3 hgr (by omega) (by simpa using hnw)
      have hrepB := k2 _ _ hrepA
      have hfrB := k3 vv (HO.out.fr.trans q4)
      obtain ⟨ao, cp, hvf⟩ := row_form ho
      have HT := hide (takes_c k1 hg ht (B [44]))
      have hst : stepI toks st2.1 = if (tk toks st2.1).k = 101 then st2.1 else st2.1 + 1 := rfl
      have htt := ht st2.1
      have hsz := HG2.out.size
      have hszp := szE_pos y
      have hisT := htt.isT (s := [44]) (by unfold SignLike; decide)
      unfold ptrV at HT
      rw [hisT] at HEQ2
      clear hisT hown3 hgr hnw hrep3 hrepA k2 k3 q1 hvlt
      subst hvf
      by_cases hq : (tk toks st2.1).t = B [44]
      · rw [decide_eq_true hq] at HEQ2 HT
        rw [if_pos rfl] at HEQ2
        rw [if_pos hq, hst, if_neg (fun e => by have := htt.e e; rw [this] at hq; exact absurd hq (by decide))] at HT
        have HQ := hide hq
        clear hq hst htt
        go_wp2_with (first | (go_at_call 201; refine HT.out.mono ?_; rintro e w5 ⟨rfl, m1, m2⟩))
        go_step3
        have hR5 := m1
        refine ⟨rfl, ⟨_, acc ++ [y], _, (st2.1 + 1, st2.2), vv3, vbs3, f, _, _, _, _, _, _, _, rfl, ⟨own_tk (by simpa using ho) (k1.tkeeps m2), hrepB.frame (k1.tkeeps m2) (fun _ h _ => h) (List.prefix_refl _), m1, HO.out.pre.trans q3, hfrB.trans m2, by simp only; omega, HEQ2.out, by simp; omega⟩⟩, ?_⟩
        rw [posOf_eq hR5, posOf_eq hR1]
        omega
      · rw [decide_eq_false hq] at HEQ2 HT
        rw [if_neg (by simp)] at HEQ2
        rw [if_neg hq] at HT
        clear hq hst htt
        go_wp2_with (first | (go_at_call 201; refine HT.out.mono ?_; rintro e w5 ⟨rfl, m1, m2⟩))
        try simp only [Exit.jump]
        go_ret
        rw [← HEQ2.out]
        exact ⟨_, vv3, vbs3, _, rfl, own_tk (by simpa using ho) (k1.tkeeps m2), hrepB.frame (k1.tkeeps m2) (fun _ h _ => h) (List.prefix_refl _), m1, HO.out.pre.trans q3, hfrB.trans m2⟩
end Go.Proofs.YtodpkdajbnceoaaGreatDoor
namespace Go.Proofs.YtodpkdajbnceoaaGreatDoor
open Go.RowKit Go.Shelf
attribute [local go_sem] Oper.semAt_some
abbrev IV := TypeId × Value
def encI (x : IV) : Value := .iface x.1 x.2
def KpL (B n : Nat) (W W' : World) : Prop := ∀ b, b ≠ B → b < n → W'.heap[b]? = W.heap[b]?
theorem KpL.cell {B n : Nat} {W W' : World} (h : KpL B n W W') {p : Addr} (h1 : p.block ≠ B) (h2 : p.block < n) : W'.cell? p = W.cell? p := World.cell?_of_block (h p.block h1 h2)
theorem behind1_in (F : Fence) (n : Nat) (hF : F.fn 368) (hro : F.round = none) (hn : 1 ≤ n) (l Bs B n₁ g cap : Nat) (zs : List IV) (hz : zs.length ≤ 3000) (hg1 : g < n₁) (hg2 : g ≠ B) (hs1 : Bs < n₁) (hs2 : Bs ≠ B) (J Jx : List IV → World → Prop)
    (hY : ∀ pre x W, J pre W → pre.length < zs.length → YieldAt F (n - 1) Tryz.prog l #[.iface x.1 x.2] W fun e W' =>
      (e = .returned (.bool true) ∧ J (pre ++ [x]) W' ∧ KpL B n₁ W W') ∨ (e = .returned (.bool false) ∧ Jx (pre ++ [x]) W'))
    (W : World) (hBs : W.cell? ⟨Bs, 0, none⟩ = some (.slice (some ⟨g, 0, none⟩) zs.length cap)) (hc : ∀ j (h : j < zs.length), W.cell? ⟨g, zs.length - 1 - j, none⟩ = some (.iface zs[j].1 zs[j].2)) (h0 : J [] W) :
    CallsIn F n Tryz.prog 368 #[.func (.yield l) #[] #[], .pointer (some ⟨Bs, 0, none⟩)] W fun e W' => (∃ v, e = .returned v) ∧
      ((∃ ys, ys = zs ∧ J ys W') ∨ (∃ pre, pre <+: zs ∧ Jx pre W')) := by
  refine callsIn_of_wp Tryz.func368 rfl hF ?_ hro
  simp only [Tryz.ntmps368, List.size_toArray, List.length_cons, List.length_nil, Nat.reduceAdd, Nat.reduceSub, Array.replicate_succ, Array.replicate_zero, List.push_toArray, List.append_toArray, List.nil_append, List.cons_append]
  gi_wp2
  gi_loopw [3] (fun i wr => ∃ k : Nat, k ≤ zs.length ∧ i = .int .i64 ((zs.length : Int) - 1 - k) ∧ J (zs.take k) wr ∧ KpL B n₁ W wr)
    (fun i _ => (intOf i + 1).toNat)
  case atStart => exact ⟨0, Nat.zero_le _, by go_num, by simpa using h0, fun _ _ _ => rfl⟩
  case round =>
    obtain ⟨k, hk, rfl, hJs, hnx⟩ := hrel
    have hbs' := (hnx.cell (p := ⟨Bs, 0, none⟩) hs2 hs1).trans hBs
    by_cases hlt : k < zs.length
    · obtain ⟨fn, tmps, assign, body, hy, hR⟩ := hY _ zs[k] wr hJs (by simp; omega)
      have hcx := (hnx.cell (p := ⟨g, zs.length - 1 - k, none⟩) hg2 hg1).trans (hc k hlt)
      have hix : ((zs.length : Int) - 1 - k).toNat = zs.length - 1 - k := by omega
      gi_wp2
      refine hR.mono ?_
      rintro e W3 (⟨rfl, hJ3, hk3⟩ | ⟨rfl, hJx3⟩)
      · gi_wp2
        go_roundw
        case rel => exact ⟨k + 1, by omega, by go_num, by rw [List.take_succ_eq_append_getElem hlt]; exact hJ3, fun b h1 h2 => (hk3 b h1 h2).trans (hnx b h1 h2)⟩
        case measure => simp [intOf]; omega
      · gi_wp2
        refine bodyPost_ret (results_none rfl _ _ _) rfl ?_
        exact ⟨⟨_, rfl⟩, .inr ⟨_, by rw [← List.take_succ_eq_append_getElem hlt]; exact List.take_prefix _ _, hJx3⟩⟩
    · obtain rfl : k = zs.length := by omega
      gi_wp2
      go_end0
      exact ⟨⟨_, rfl⟩, .inl ⟨_, rfl, by simpa using hJs⟩⟩
theorem behind1_nil_in (F : Fence) (n : Nat) (hF : F.fn 368) (hro : F.round = none) (l Bs : Nat) (J : List IV → World → Prop) (W : World) (hBs : W.cell? ⟨Bs, 0, none⟩ = some (.slice none 0 0)) (h0 : J [] W) :
    CallsIn F n Tryz.prog 368 #[.func (.yield l) #[] #[], .pointer (some ⟨Bs, 0, none⟩)] W fun e W' => (∃ v, e = .returned v) ∧ J [] W' := by
  refine callsIn_of_wp Tryz.func368 rfl hF ?_ hro
  simp only [Tryz.ntmps368, List.size_toArray, List.length_cons, List.length_nil, Nat.reduceAdd, Nat.reduceSub, Array.replicate_succ, Array.replicate_zero, List.push_toArray, List.append_toArray, List.nil_append, List.cons_append]
  gi_wp2
  gi_loopw [3] (fun i wr => i = .int .i64 (-1) ∧ J [] wr) (fun _ _ => 0)
  case atStart => exact ⟨rfl, h0⟩
  case round =>
    obtain ⟨rfl, hJs⟩ := hrel
    gi_wp2
    go_end0
    exact ⟨⟨_, rfl⟩, hJs⟩
theorem behind_in (F : Fence) (n : Nat) (h5 : F.fn 358) (hro : F.round = none) (a : Option Addr) (len cap : Nat) (w : World) :
    CallsIn F n Tryz.prog 358 #[.slice a len cap] w fun e w' => e = .returned (.func (.func 368) #[] #[.pointer (some ⟨w.heap.size, 0, none⟩)]) ∧ w' = w.alloc (.cells #[.slice a len cap] 221) := by
  refine callsIn_of_wp Tryz.func358 rfl h5 ?_ hro
  simp only [Tryz.ntmps358, List.size_toArray, List.length_cons, List.length_nil, Nat.reduceAdd, Nat.reduceSub, Array.replicate_succ, Array.replicate_zero, List.push_toArray, List.append_toArray, List.nil_append, List.cons_append]
  gi_wp2
  go_ret
  exact ⟨rfl, rfl⟩
def BackOf (B n₁ : Nat) (W : World) (sv : Value) (zs : List IV) : Prop :=
  (sv = .slice none 0 0 ∧ zs = []) ∨ ∃ g cap, sv = .slice (some ⟨g, 0, none⟩) zs.length cap ∧ g < n₁ ∧ g ≠ B ∧ ∀ j (h : j < zs.length), W.cell? ⟨g, zs.length - 1 - j, none⟩ = some (.iface zs[j].1 zs[j].2)
theorem behind_stops (F : Fence) (n : Nat) (hF : F.fn 368) (hro : F.round = none) (hn : 1 ≤ n) (Bs B : Nat) (sv : Value) (zs : List IV) (hz : zs.length ≤ 3000) (w : World) (hBs : Bs < w.heap.size) (hsB : Bs ≠ B)
    (hc : w.cell? ⟨Bs, 0, none⟩ = some sv) (hI : BackOf B w.heap.size w sv zs) :
    SeqStopsK F n Tryz.prog 368 #[.pointer (some ⟨Bs, 0, none⟩)] (fun x : IV => #[Value.iface x.1 x.2]) (KpL B w.heap.size) (fun ys => ys = zs) (fun pre => pre <+: zs) zs.length w := fun l J Jx W hW _ _ hY h0 => by
  have hc' := (hW.cell (p := ⟨Bs, 0, none⟩) hBs).trans hc
  rcases hI with ⟨rfl, rfl⟩ | ⟨g, cap, rfl, hg1, hg2, hcs⟩
  · exact (behind1_nil_in F n hF hro l Bs J W hc' h0).mono fun e W' h => ⟨h.1, .inl ⟨[], rfl, h.2⟩⟩
  · exact behind1_in F n hF hro hn l Bs B w.heap.size g cap zs hz hg1 hg2 hBs hsB J Jx hY W hc' (fun j hj => (hW.cell (p := ⟨g, zs.length - 1 - j, none⟩) hg1).trans (hcs j hj)) h0
attribute [local go_sem] Oper.semAt_some
theorem TRepL.get {w : World} {Ok : Nat → Prop} {vbs : List Nat} : ∀ {l : List Ex} {us : List Value} (_ : TRepL w Ok vbs l us) (k : Nat) (hk : k < l.length) (hk' : k < us.length), TRep w Ok vbs l[k] us[k]
  | _, _, .nil, k, hk, _ => absurd hk (by simp)
  | _, _, .cons x l u us hx hl, 0, _, _ => hx
  | _, _, .cons x l u us hx hl, k + 1, hk, hk' => by
    simpa using hl.get k (by simpa using hk) (by simpa using hk')
theorem TRepL.ifaces {w : World} {Ok : Nat → Prop} {vbs : List Nat} : ∀ {l : List Ex} {us : List Value}, TRepL w Ok vbs l us → ∃ zs : List IV, us = zs.map encI
  | _, _, .nil => ⟨[], rfl⟩
  | _, _, .cons x l u us hx hl => by
    obtain ⟨t, v, rfl, _⟩ := hx.form
    obtain ⟨zs, rfl⟩ := hl.ifaces
    exact ⟨(t, v) :: zs, rfl⟩
def CellsStay (W W' : World) : Prop := ∀ (b : Nat) (cs : Array Value) (T : TypeId) (fz : Nat × Nat), W.heap[b]? = some (Obj.cells cs T fz) → W'.heap[b]? = some (Obj.cells cs T fz)
theorem stay_grown {W W' : World} {row : Option Nat} (hg : W.grownBy W' row) (hr : ∀ r, row = some r → ∃ o : Obj, W.heap[r]? = some o ∧ o.isCells = false) : CellsStay W W' := by
  intro b cs T fz hb
  rw [hg.block b (Array.getElem?_eq_some_iff.1 hb).1 (fun e => ?_)]
  · exact hb
  · obtain ⟨o, ho, hc⟩ := hr b e.symm
    rw [hb] at ho; cases ho; cases hc
theorem CellsStay.tk {W W' : World} {Ok : Nat → Prop} (h : CellsStay W W') : TKeeps Ok W W' := fun b cs T _ hb => h b cs T _ hb
def tailS (exs : List Ex) (r : Ex) (k : Nat) : Ex := (exs.drop (exs.length - k)).foldr cellEx r
theorem tailS_succ (exs : List Ex) (r : Ex) (k : Nat) (hk : k < exs.length) : tailS exs r (k + 1) = cellEx (exs[exs.length - 1 - k]'(by omega)) (tailS exs r k) := by
  unfold tailS
  have h1 : exs.length - (k + 1) = exs.length - 1 - k := by omega
  rw [h1, List.drop_eq_getElem_cons (by omega)]
  have h2 : exs.length - 1 - k + 1 = exs.length - k := by omega
  rw [h2]; rfl
structure ListI (w : World) (Ok : Nat → Prop) (vbs : List Nat) (exs : List Ex) (r : Ex) (zs : List IV) (pre : List IV) (W : World) : Prop where
  cell : ∃ tu vu, W.heap[w.heap.size]? = some (.cells #[.iface tu vu] 185 (0, 0)) ∧ (pre <+: zs → TRep W (fun b => Ok b ∧ b ≠ w.heap.size) vbs (tailS exs r pre.length) (.iface tu vu))
  below : Below w.heap.size w W
  sz : w.heap.size + 2 ≤ W.heap.size
theorem list_own (w : World) (Ok : Nat → Prop) (vbs : List Nat) (exs : List Ex) (r : Ex) (zs : List IV) (B : Nat) (hB : w.heap.size ≤ B) : OwnFrom B (ListI w Ok vbs exs r zs) := by
  intro pre W W' row hs hg hr
  have hst := stay_grown hg (fun r e => (hr r e).2)
  obtain ⟨tu, vu, h1, h2⟩ := hs.cell
  exact ⟨⟨tu, vu, hst _ _ _ _ h1, fun hp => (h2 hp).frame hst.tk (fun _ h _ => h) (List.prefix_refl _)⟩, hs.below.grown hg (by have := hs.below.size; omega) (fun k e => Nat.le_trans hB (hr k e).1), Nat.le_trans hs.sz hg.size⟩
theorem list_in (F : Fence) (n : Nat) (h3 : F.fn 333) (h5 : F.fn 358) (h6 : F.fn 368) (hro : F.round = none) (hn : 3 ≤ n)
    (w : World) (Ok : Nat → Prop) (vbs : List Nat) (exs : List Ex) (r : Ex) (us : List Value) (v u : Value) (n0 : Nat) (hL : TRepL w Ok vbs exs us) (hr : TRep w Ok vbs r u) (hown : w.ownsRow n0 185 1 v exs.length us) (hsm : exs.length ≤ 3000) (hok : ∀ b, w.heap.size ≤ b → Ok b) :
    CallsIn F n Tryz.prog 333 #[v, u] w fun e W' => ∃ u', e = .returned u' ∧ Below w.heap.size w W' ∧ TRep W' Ok vbs (exs.foldr cellEx r) u' := by
  have h1 : 1 ≤ n := by omega
  obtain ⟨tu, vu, rfl, _⟩ := hr.form
  obtain ⟨ys, rfl⟩ := hL.ifaces
  obtain ⟨zs, hzs⟩ : ∃ zs, zs = ys.reverse := ⟨_, rfl⟩
  have hlen : ys.length = exs.length := by have := hL.len; simpa using this
  have hzl : zs.length = exs.length := by rw [hzs]; simp [hlen]
  have hBk : ∀ W : World, BackOf w.heap.size W.heap.size W v zs ∨ ¬ (Below w.heap.size w W) := fun W => by
    by_cases hB : Below w.heap.size w W
    · left
      rcases hown.2 with ⟨rfl, h0⟩ | ⟨g, cap, cur, rfl, r1, r2, r3, r4, r5, r6⟩
      · exact .inl ⟨rfl, List.length_eq_zero_iff.1 (by omega)⟩
      · have hgl := (Array.getElem?_eq_some_iff.1 r2).1
        refine .inr ⟨g, cap, by rw [hzl], by have := hB.size; omega, by omega, fun j hj => ?_⟩
        rw [hB.cell (p := ⟨g, zs.length - 1 - j, none⟩) hgl]
        refine rowCell r2 r6 ?_
        have e1 : zs.length - 1 - j < ys.length := by omega
        rw [List.getElem?_map, List.getElem?_eq_getElem e1]
        have e2 : zs[j] = ys[zs.length - 1 - j] := by
          subst hzs
          rw [List.getElem_reverse]
          simp
        rw [e2]; rfl
    · exact .inr hB
  obtain ⟨ao, cp, hvf⟩ := row_form hown
  subst hvf
  refine callsIn_of_wp_marks Tryz.func333 rfl h3 ?_ hro
  simp only [Tryz.ntmps333, List.size_toArray, List.length_cons, List.length_nil, Nat.reduceAdd, Nat.reduceSub, Array.replicate_succ, Array.replicate_zero, List.push_toArray, List.append_toArray, List.nil_append, List.cons_append]
  gi_wp2_with (gi_at_call 358; refine (behind_in F (n - 1) h5 hro _ _ _ _).mono ?_; rintro e w' ⟨rfl, rfl⟩)
  obtain ⟨W0, hW0⟩ : ∃ W0, W0 = (w.alloc (.cells #[.iface tu vu] 185)).alloc (.cells #[.slice ao exs.length cp] 221) := ⟨_, rfl⟩
  rw [← hW0]
  have hB0 : Below w.heap.size w W0 := by rw [hW0]; exact ((Below.refl _ w).alloc (Nat.le_refl _) _).alloc (by simp) _
  have hz0 : W0.heap.size = w.heap.size + 2 := by rw [hW0]; simp
  have hbox : W0.heap[w.heap.size]? = some (.cells #[.iface tu vu] 185 (0, 0)) := by rw [hW0, Below.heap_alloc _ _ _ (by simp)]; exact heap_alloc_new w _
  have hbs : W0.heap[w.heap.size + 1]? = some (.cells #[.slice ao exs.length cp] 221 (0, 0)) := by
    have := heap_alloc_new (w.alloc (.cells #[.iface tu vu] 185)) (.cells #[.slice ao exs.length cp] 221)
    rw [World.size_alloc, ← hW0] at this; exact this
  have hbc : W0.cell? ⟨w.heap.size + 1, 0, none⟩ = some (.slice ao exs.length cp) := by rw [cell_of_block hbs]; rfl
  have hback := (hBk W0).resolve_right (fun h => h hB0)
  clear hBk hW0
  refine wpIn_rangeFunc_ownF hro h1 (gf := 368) (lb := #[.pointer (some ⟨w.heap.size + 1, 0, none⟩)]) rfl h6 (enters_of Tryz.func368 (by kernel_rfl) rfl)
    (behind_stops F (n - 1) h6 hro (by omega) (w.heap.size + 1) w.heap.size _ zs (by omega) W0 (by omega) (by omega) hbc hback)
    (fun h k b h1 h2 => (k b h1 h2).trans (h b h1 h2))
    (fun W l o o' hl hW _ _ b _ h2 => World.putObj_heap_other (by omega))
    (Below.refl _ _) (fun _ => rfl)
    (ListI w Ok vbs exs r zs)
    (fun _ _ _ => False)
    (list_own w Ok vbs exs r zs _ hB0.size)
    (fun _ _ _ _ _ hs _ _ => hs)
    ⟨⟨tu, vu, hbox, fun _ => by
      have : tailS exs r ([] : List IV).length = r := by simp [tailS]
      rw [this]; exact hr.frame (tkeeps_below hB0) (fun b h hl => ⟨h, by omega⟩) (List.prefix_refl _)⟩, hB0, by omega⟩
    (fun x => { tmps := #[.slice ao exs.length cp, .iface tu vu, undef, .pointer (some ⟨w.heap.size, 0, none⟩), .nilIface, .iface x.1 x.2, .slice ao exs.length cp, .func (.func 368) #[] #[.pointer (some ⟨w.heap.size + 1, 0, none⟩)], .iface x.1 x.2, undef, undef, undef, undef, undef, undef, undef], defers := [] }) ?assign ?body ?done ?stop
  case assign =>
    intro l x W K hK
    gi_wp2
    exact hK
  case body =>
    rintro l pre x W ⟨⟨tu2, vu2, hc, hrep⟩, hB, hsz⟩ hlt
    have hcc : W.cell? ⟨w.heap.size, 0, none⟩ = some (.iface tu2 vu2) := by rw [cell_of_block hc]; rfl
    have hfz := fz_of hc 0
    have hwl : w.heap.size < W.heap.size := (Array.getElem?_eq_some_iff.1 hc).1
    have hwl1 : w.heap.size < W.heap.size + 1 := by omega
    gi_wp2
    obtain ⟨W1, hW1⟩ : ∃ W1, W1 = W.setCell ⟨w.heap.size, 0, none⟩ (.iface 342 (.pointer (some ⟨W.heap.size + 1, 0, none⟩))) := ⟨_, rfl⟩
    rw [← hW1]
    have hs1 : W1.heap.size = W.heap.size := by rw [hW1]; simp [World.setCell]
    have ho1 : ∀ b, b ≠ w.heap.size → W1.heap[b]? = W.heap[b]? := fun b hb => by rw [hW1]; exact Below.heap_setCell _ _ _ _ hb
    have hc1 : W1.heap[w.heap.size]? = some (.cells #[.iface 342 (.pointer (some ⟨W.heap.size + 1, 0, none⟩))] 185 (0, 0)) := by rw [hW1, heap_setCell_same hc]; rfl
    have hk1 : TKeeps (fun b => Ok b ∧ b ≠ w.heap.size) W W1 := fun b cs T hT hb => by
      rw [ho1 b ?_]
      · exact hb
      · rintro rfl
        rcases hT with rfl | ⟨_, hT⟩
        · rw [hc] at hb; injection hb with hb; injection hb with _ hb; cases hb
        · exact hT.2 rfl
    have hKO : KeepsOthers W W1 := by rw [hW1]; exact KeepsOthers.setCell _ _ _
    have hBw : Below w.heap.size w W1 := by rw [hW1]; exact hB.setCell (p := ⟨w.heap.size, 0, none⟩) (Nat.le_refl _) _
    refine ⟨hKO.trans ((KeepsOthers.alloc _ _).trans (KeepsOthers.alloc _ _)), fun b h1 h2 => ?_, ⟨⟨342, .pointer (some ⟨W.heap.size + 1, 0, none⟩), ?_, fun hp => ?_⟩, (hBw.alloc (by omega) _).alloc (by simp; omega) _, by simp; omega⟩⟩
    · rw [Below.heap_alloc _ _ _ (by simp; omega), Below.heap_alloc _ _ _ (by omega)]
      exact ho1 b h1
    · rw [Below.heap_alloc _ _ _ (by simp; omega), Below.heap_alloc _ _ _ (by omega)]
      exact hc1
    · have hp0 : pre <+: zs := (List.prefix_append pre [x]).trans hp
      have hxz : x = zs[pre.length] := by
        obtain ⟨q, hq⟩ := hp
        have : zs[pre.length]? = some x := by rw [← hq, List.append_assoc, List.getElem?_append_right (Nat.le_refl _)]; simp
        rw [List.getElem?_eq_getElem hlt] at this; exact (Option.some.inj this).symm
      have hlx : pre.length < exs.length := by omega
      rw [List.length_append, List.length_singleton, tailS_succ _ _ _ hlx]
      have hel := hL.get (exs.length - 1 - pre.length) (by omega) (by simp; omega)
      have hex : (ys.map encI)[exs.length - 1 - pre.length]'(by simp; omega) = .iface x.1 x.2 := by
        rw [List.getElem_map, hxz]
        have : zs[pre.length] = ys[exs.length - 1 - pre.length]'(by omega) := by
          subst hzs
          rw [List.getElem_reverse]
          simp [hlen]
        rw [this]; rfl
      rw [hex] at hel
      have hel1 := (hel.frame (Ok' := fun b => Ok b ∧ b ≠ w.heap.size) (tkeeps_below hBw) (fun b h hl => ⟨h, by omega⟩) (List.prefix_refl _))
      have h9 := TRep.two (B [46]) hel1 ((hrep hp0).frame hk1 (fun _ h _ => h) (List.prefix_refl _)) ⟨hok _ (by omega), by omega⟩
      rw [hs1] at h9
      exact h9
  case done =>
    rintro D ys2 W hD rfl ⟨⟨tu2, vu2, hc, hrep⟩, hB, hsz⟩ hK
    have hcc : W.cell? ⟨w.heap.size, 0, none⟩ = some (.iface tu2 vu2) := by rw [cell_of_block hc]; rfl
    gi_wp2
    refine ⟨by simp, .inl ⟨_, _, rfl, run_takeDeferred hK, ?_⟩⟩
    have hB2 : Below w.heap.size W (W.putObj D (.deferred none)) := belowK_b (w := w) (Nat.le_refl _) W D _ _ (by omega) hK rfl rfl
    have hst : CellsStay W (W.putObj D (.deferred none)) := stay_grown (grownBy_putObj' W D _) (fun r e => by cases e; exact ⟨_, hK, rfl⟩)
    refine ⟨_, results_tmp rfl _ _ _, _, rfl, hB.trans hB2, ?_⟩
    have h9 := (hrep (List.prefix_refl _)).frame (Ok' := Ok) (hst.tk) (fun _ h _ => h.1) (List.prefix_refl _)
    have h8 : tailS exs r ys2.length = exs.foldr cellEx r := by unfold tailS; rw [hzl]; simp
    rw [h8] at h9
    exact h9
  case stop =>
    rintro D c pre W _ _ h _
    exact h.elim
end Go.Proofs.YtodpkdajbnceoaaGreatDoor

import Derived.Test.YtodpkdajbnceoaaGreatDoorPart17
set_option linter.unusedVariables false
set_option linter.unusedSimpArgs false
namespace Go.Proofs.YtodpkdajbnceoaaGreatDoor
open Go.RowKit

/-! A prim: one deeper, and up again. -/

theorem settle_plain (v : Value) : settle (.panicking [{ v := v, recovered := false }]) = .panicking [{ v := v, recovered := false }] := rfl

theorem leaves_up {fn : Func} {tmps : Array Value} {R : Ending → World → Prop} {u : FrameMode} {w : World} {Bx bp : Nat} {d : Int} (hd : 0 ≤ d) (hd8 : d ≤ 7) (hu : u ≠ .run)
    (hB : w.cell? ⟨Bx, 0, none⟩ = some (ptrV bp)) (hc : w.cell? ⟨bp, 2, none⟩ = some (.int .i64 (d + 1))) (hf : w.frozen? ⟨bp, 2, none⟩ = false)
    (h : Leaves Tryz.prog fn tmps R [] (settle u) (w.setCell ⟨bp, 2, none⟩ (.int .i64 d))) :
    Leaves Tryz.prog fn tmps R [{ target := .fn (.func 288) #[.pointer (some ⟨Bx, 0, none⟩)], args := #[] }] u w := by
  refine leaves_cons (f := 288) (args := #[.pointer (some ⟨Bx, 0, none⟩)]) hu (by simp [go_sem]) ?_
  refine (up_c (u := u) (d := d + 1) (bp := bp) (by omega) (by omega) hB hc hf).mono ?_
  rintro e u' w'' ⟨rfl, rfl, rfl⟩
  have e1 : d + 1 - 1 = d := by omega
  rw [e1]
  exact h

section
variable {w w1 w2 : World} {bp : Nat} {toks : List Tok} {lv vv : Value} {i : Nat} {d : Int} {vars : List ByteArray} {vbs : List Nat}

/-- what the step back up needs, and leaves -/
structure Deeper (w w1 : World) (bp Bx : Nat) (vv : Value) : Prop where
  ge : w.heap.size ≤ Bx
  cell : w1.heap[Bx]? = some (.cells #[ptrV bp] 209 (0, 0))
  fr : Fr bp vv vv w w1
  bpl : bp < w.heap.size
  vvl : ∀ b, vv.ownBlock = some b → b < w.heap.size

theorem Deeper.at {Bx : Nat} {vv' : Value} (h : Deeper w w1 bp Bx vv) (hf : Fr bp vv vv' w1 w2) : w2.cell? ⟨Bx, 0, none⟩ = some (ptrV bp) := by
  have h1 := h.ge
  have h2 := h.bpl
  refine hf.cell (by rw [cell_of_block h.cell]; rfl) (fun e => ?_) (fun e => ?_)
  · simp at e; omega
  · have := h.vvl _ e; simp at this; omega

theorem RPost.up_err {Bx g : Nat} {er a : Int} (hD : Deeper w w1 bp Bx vv) (h : RFault er a bp lv vv (d + 1) w1 (.panicked [{ v := faultV g, recovered := false }]) w2) :
    w2.cell? ⟨Bx, 0, none⟩ = some (ptrV bp) ∧ w2.cell? ⟨bp, 2, none⟩ = some (.int .i64 (d + 1)) ∧ w2.frozen? ⟨bp, 2, none⟩ = false ∧
      RFault er a bp lv vv d w (.panicked [{ v := faultV g, recovered := false }]) (w2.setCell ⟨bp, 2, none⟩ (.int .i64 d)) := by
  obtain ⟨g', vv', i', h1, h2, h3, h4, h5⟩ := h
  have hs := hD.fr.size
  have hb := hD.bpl
  rw [h2]
  refine ⟨hD.at h4, by rw [cell_of_block h5]; rfl, by simp [World.frozen?, h5], g', vv', i', by omega, rfl, ?_, (hD.fr.trans h4).setBp _ _, by rw [heap_setCell_same h5]; rfl⟩
  rw [Below.heap_setCell _ _ _ _ (show g' ≠ bp by omega)]
  exact h3

theorem RPost.up_ok {Bx : Nat} {vv' : Value} {x : Ex} {u : Value} {st : St} {vbs' : List Nat} {r : R Ex} (hD : Deeper w w1 bp Bx vv) (hr : r = .ok (x, st)) (h1 : TRep w2 (fun b => w1.heap.size ≤ b) vbs' x u) (h2 : RIn w2 bp toks lv vv' st.1 (d + 1) st.2 vbs') (h3 : vbs <+: vbs') (h4 : Fr bp vv vv' w1 w2) :
    w2.cell? ⟨Bx, 0, none⟩ = some (ptrV bp) ∧ w2.cell? ⟨bp, 2, none⟩ = some (.int .i64 (d + 1)) ∧ w2.frozen? ⟨bp, 2, none⟩ = false ∧
      RPost toks bp lv vv d vbs w r (.returned u) (w2.setCell ⟨bp, 2, none⟩ (.int .i64 d)) := by
  have hs := hD.fr.size
  have hF : Fr bp vv' vv' w2 (w2.setCell ⟨bp, 2, none⟩ (.int .i64 d)) := (Fr.refl _ _ _).setBp _ _
  exact ⟨hD.at h4, h2.c2, h2.fz 2, .okI hr (h1.frame (h2.tkeeps hF) (fun b hb _ => Nat.le_trans hs hb) (List.prefix_refl _)) (h2.setD d) h3 ((hD.fr.trans h4).trans hF)⟩

end

/-- the contract of down, with what comes of it -/
theorem down_d {w : World} {bp : Nat} {toks : List Tok} {lv vv : Value} {i : Nat} {d : Int} {vars : List ByteArray} {vbs : List Nat} (h : RIn w bp toks lv vv i d vars vbs) (hg : GoodToks toks) (hd0 : 0 ≤ d) (hd7 : d ≤ 7) :
    Calls Tryz.prog 243 #[ptrV bp] w fun e w1 => ∃ Bx, e = .returned (.func (.func 288) #[] #[.pointer (some ⟨Bx, 0, none⟩)]) ∧ Deeper w w1 bp Bx vv ∧ RIn w1 bp toks lv vv i (d + 1) vars vbs :=
  (down_c h hg hd0 (by omega)).mono fun e w1 hh => by
    obtain ⟨Bx, h1, h2, h3, h4, h5⟩ := hh.2 (by omega)
    exact ⟨Bx, h2, ⟨h1, h3, h5, h.lt_size, fun b hb => h.blt b (.inr (.inr (.inl hb)))⟩, h4⟩

set_option maxRecDepth 100000 in
set_option maxHeartbeats 2000000 in
theorem prim_zero_c {toks : List Tok} (hg : GoodToks toks) : RReads 226 toks 8 (primS toks 0) := by
  intro w bp lv vv st vbs h
  have HD : Hid (Calls Tryz.prog 243 #[ptrV bp] w fun e w1 => RFault 4 (tk toks st.1).a bp lv vv 8 w e w1) := (down_c h hg (by omega) (by omega)).mono fun e w1 hh => hh.1 rfl
  unfold ptrV at *
  go_enter_defers Tryz.func226, Tryz.ntmps226
  go_wp2_with (first | (go_at_call 243; refine HD.out.mono ?_; rintro e w1 hF; have hF' := hF; obtain ⟨g, vv', i', h1, rfl, h3⟩ := hF))
  exact (RPost.errI (toks := toks) (vbs := vbs) rfl hF' : RPost toks bp lv vv 8 vbs w (primS toks 0 st) _ _)

set_option maxRecDepth 100000 in
set_option maxHeartbeats 4000000 in
theorem prim_word_c {toks : List Tok} (hg : GoodToks toks) (ht : TTs toks) (ex : St → R Ex) (hpo : PartOk toks ex) {d : Int} (hd0 : 0 ≤ d) (hd7 : d ≤ 7) (HP : RReads 139 toks (d + 1) ex) (w : World) (bp : Nat) (lv vv : Value) (st : St) (vbs : List Nat) (h : RIn w bp toks lv vv st.1 d st.2 vbs)
    (hw : (tk toks st.1).k = 110 ∨ (tk toks st.1).k = 118 ∨ (tk toks st.1).k = 97) :
    Calls Tryz.prog 226 #[ptrV bp] w fun e w' => RPost toks bp lv vv d vbs w (bareOf toks ex st) e w' := by
  have HD := hide (down_d h hg hd0 hd7)
  have HN := hide (fun w' (h' : RIn w' bp toks lv vv st.1 (d + 1) st.2 vbs) => now_c h' hg)
  have ff0 := tok_f0
  obtain ⟨t, hT⟩ : ∃ t, t = tk toks st.1 := ⟨_, rfl⟩
  rw [← hT] at HN
  rcases hw with hk | hk | hk
  · have HNu : Hid (∀ w', RIn w' bp toks lv vv st.1 (d + 1) st.2 vbs → Calls Tryz.prog 276 #[ptrV bp, .int .i64 1] w' fun e w'' => e = .returned (.iface 339 (.int .i64 (digVal t.t.data.toList))) ∧ RIn w'' bp toks lv vv (st.1 + 1) (d + 1) st.2 vbs ∧ Fr bp vv vv w' w'') := fun w' h' => (number_c h' hg ht 1 (.inl rfl)).mono fun e w'' hh => by have := hh.1 hk; rw [hT]; simpa using this
    have HR : Hid (bareOf toks ex st = .ok (.num (digVal t.t.data.toList), (st.1 + 1, st.2))) := by unfold Hid bareOf; rw [hT]; simp only [hk, if_true]
    have hkc : kC t.k = 2 := by rw [hT]; exact (ht st.1).kC_num.2 hk
    unfold ptrV tokVC tokB at *
    rw [hkc] at HN
    clear hk hT
    go_enter_defers Tryz.func226, Tryz.ntmps226
    go_wp2_with (first | (go_at_call 243; refine HD.out.mono ?_; rintro e w1 ⟨Bx, rfl, hDp, hR1⟩) | (go_at_call 156; refine (HN.out _ hR1).mono ?_; rintro e w2 ⟨rfl, rfl⟩; have hR2 := (hR1.alloc (tokB t)).drew; have hF2 : Fr bp vv vv w1 _ := ((Fr.refl bp vv w1).alloc (tokB t)).drew; unfold tokB at hR2 hF2; rw [hkc] at hR2 hF2) | (go_at_call 276; refine (HNu.out _ hR2).mono ?_; rintro e w3 ⟨rfl, hR3, hF3⟩))
    obtain ⟨c1, c2, c3, hp⟩ := RPost.up_ok hDp HR.out (.num _) hR3 (List.prefix_refl _) (hF2.trans hF3)
    exact leaves_up hd0 hd7 (by simp) c1 c2 c3 ⟨_, results_tmp (t := 2) rfl _ _ _, hp⟩
  · have hkc : kC t.k = 1 := by rw [hT]; exact (ht st.1).kC_var.2 hk
    have hbo : bareOf toks ex st = varOf t (st.1 + 1, st.2) := by unfold bareOf; rw [← hT]; simp only [show t.k = 118 by rw [hT]; exact hk]; rfl
    have hk' := hk
    unfold tokVC tokB at HN
    rw [hkc] at HN
    have HV := hide (fun w' (h' : RIn w' bp toks lv vv st.1 (d + 1) st.2 vbs) => by have := variable_c h' hg ht hk'; rw [← hT] at this; exact this)
    cases hr : varOf t (st.1 + 1, st.2) with
    | error p =>
      obtain ⟨er, a⟩ := p
      rw [hr] at HV
      have HV' : Hid (∀ w', RIn w' bp toks lv vv st.1 (d + 1) st.2 vbs → Calls Tryz.prog 277 #[ptrV bp] w' fun e w'' => RFault er a bp lv vv (d + 1) w' e w'') := HV.out
      have HR : Hid (bareOf toks ex st = .error (er, a)) := by rw [Hid, hbo, hr]
      clear HV hr hbo hT hk hk'
      unfold ptrV at *
      go_enter_defers Tryz.func226, Tryz.ntmps226
      go_wp2_with (first | (go_at_call 243; refine HD.out.mono ?_; rintro e w1 ⟨Bx, rfl, hDp, hR1⟩) | (go_at_call 156; refine (HN.out _ hR1).mono ?_; rintro e w2 ⟨rfl, rfl⟩; have hR2 := (hR1.alloc (tokB t)).drew; have hF2 : Fr bp vv vv w1 _ := ((Fr.refl bp vv w1).alloc (tokB t)).drew; unfold tokB at hR2 hF2; rw [hkc] at hR2 hF2) | (go_at_call 277; refine (HV'.out _ hR2).mono ?_; rintro e w9 hF; have hF' := hF; obtain ⟨g, vv', i', h1, rfl, h3⟩ := hF))
      obtain ⟨c1, c2, c3, hp⟩ := RPost.up_err hDp (hF'.after (hF2))
      exact leaves_up hd0 hd7 (by simp) c1 c2 c3 (RPost.errI HR.out hp)
    | ok p =>
      obtain ⟨x, st2⟩ := p
      rw [hr] at HV
      have HV' : Hid (∀ w', RIn w' bp toks lv vv st.1 (d + 1) st.2 vbs → Calls Tryz.prog 277 #[ptrV bp] w' fun e w'' => ∃ (u vv' : Value) (vbs' : List Nat), e = .returned u ∧ TRep w'' (fun b => w'.heap.size ≤ b) vbs' x u ∧ RIn w'' bp toks lv vv' st2.1 (d + 1) st2.2 vbs' ∧ vbs <+: vbs' ∧ Fr bp vv vv' w' w'') := HV.out
      have HR : Hid (bareOf toks ex st = .ok (x, st2)) := by rw [Hid, hbo, hr]
      clear HV hr hbo hT hk hk'
      unfold ptrV at *
      go_enter_defers Tryz.func226, Tryz.ntmps226
      go_wp2_with (first | (go_at_call 243; refine HD.out.mono ?_; rintro e w1 ⟨Bx, rfl, hDp, hR1⟩) | (go_at_call 156; refine (HN.out _ hR1).mono ?_; rintro e w2 ⟨rfl, rfl⟩; have hR2 := (hR1.alloc (tokB t)).drew; have hF2 : Fr bp vv vv w1 _ := ((Fr.refl bp vv w1).alloc (tokB t)).drew; unfold tokB at hR2 hF2; rw [hkc] at hR2 hF2) | (go_at_call 277; refine (HV'.out _ hR2).mono ?_; rintro e w9 ⟨u9, vv9, vbs9, rfl, r1, r2, r3, r4⟩; obtain ⟨tu9, vu9, hu9, _⟩ := r1.form; subst hu9))
      obtain ⟨c1, c2, c3, hp⟩ := RPost.up_ok hDp HR.out (r1.mono (fun b hb _ => Nat.le_trans hF2.size hb)) r2 (r3) (hF2.trans r4)
      exact leaves_up hd0 hd7 (by simp) c1 c2 c3 ⟨_, results_tmp (t := 2) rfl _ _ _, hp⟩
  · have hkc : kC t.k = 0 := by rw [hT]; exact (ht st.1).kC_name.2 hk
    have hbo : bareOf toks ex st = namedOf toks ex st := by unfold bareOf namedOf; simp only [hk]; rfl
    have hk' := hk
    unfold tokVC tokB at HN
    rw [hkc] at HN
    have HV := hide (fun w' (h' : RIn w' bp toks lv vv st.1 (d + 1) st.2 vbs) => named_c hg ht ex hpo HP w' bp lv vv st vbs h' hk')
    cases hr : namedOf toks ex st with
    | error p =>
      obtain ⟨er, a⟩ := p
      rw [hr] at HV
      have HV' : Hid (∀ w', RIn w' bp toks lv vv st.1 (d + 1) st.2 vbs → Calls Tryz.prog 278 #[ptrV bp] w' fun e w'' => RFault er a bp lv vv (d + 1) w' e w'') := HV.out
      have HR : Hid (bareOf toks ex st = .error (er, a)) := by rw [Hid, hbo, hr]
      clear HV hr hbo hT hk hk'
      unfold ptrV at *
      go_enter_defers Tryz.func226, Tryz.ntmps226
      go_wp2_with (first | (go_at_call 243; refine HD.out.mono ?_; rintro e w1 ⟨Bx, rfl, hDp, hR1⟩) | (go_at_call 156; refine (HN.out _ hR1).mono ?_; rintro e w2 ⟨rfl, rfl⟩; have hR2 := (hR1.alloc (tokB t)).drew; have hF2 : Fr bp vv vv w1 _ := ((Fr.refl bp vv w1).alloc (tokB t)).drew; unfold tokB at hR2 hF2; rw [hkc] at hR2 hF2) | (go_at_call 278; refine (HV'.out _ hR2).mono ?_; rintro e w9 hF; have hF' := hF; obtain ⟨g, vv', i', h1, rfl, h3⟩ := hF))
      obtain ⟨c1, c2, c3, hp⟩ := RPost.up_err hDp (hF'.after (hF2))
      exact leaves_up hd0 hd7 (by simp) c1 c2 c3 (RPost.errI HR.out hp)
    | ok p =>
      obtain ⟨x, st2⟩ := p
      rw [hr] at HV
      have HV' : Hid (∀ w', RIn w' bp toks lv vv st.1 (d + 1) st.2 vbs → Calls Tryz.prog 278 #[ptrV bp] w' fun e w'' => ∃ (u vv' : Value) (vbs' : List Nat), e = .returned u ∧ TRep w'' (fun b => w'.heap.size ≤ b) vbs' x u ∧ RIn w'' bp toks lv vv' st2.1 (d + 1) st2.2 vbs' ∧ vbs <+: vbs' ∧ Fr bp vv vv' w' w'') := HV.out
      have HR : Hid (bareOf toks ex st = .ok (x, st2)) := by rw [Hid, hbo, hr]
      clear HV hr hbo hT hk hk'
      unfold ptrV at *
      go_enter_defers Tryz.func226, Tryz.ntmps226
      go_wp2_with (first | (go_at_call 243; refine HD.out.mono ?_; rintro e w1 ⟨Bx, rfl, hDp, hR1⟩) | (go_at_call 156; refine (HN.out _ hR1).mono ?_; rintro e w2 ⟨rfl, rfl⟩; have hR2 := (hR1.alloc (tokB t)).drew; have hF2 : Fr bp vv vv w1 _ := ((Fr.refl bp vv w1).alloc (tokB t)).drew; unfold tokB at hR2 hF2; rw [hkc] at hR2 hF2) | (go_at_call 278; refine (HV'.out _ hR2).mono ?_; rintro e w9 ⟨u9, vv9, vbs9, rfl, r1, r2, r3, r4⟩; obtain ⟨tu9, vu9, hu9, _⟩ := r1.form; subst hu9))
      obtain ⟨c1, c2, c3, hp⟩ := RPost.up_ok hDp HR.out (r1.mono (fun b hb _ => Nat.le_trans hF2.size hb)) r2 (r3) (hF2.trans r4)
      exact leaves_up hd0 hd7 (by simp) c1 c2 c3 ⟨_, results_tmp (t := 2) rfl _ _ _, hp⟩

end Go.Proofs.YtodpkdajbnceoaaGreatDoor

namespace Go.Proofs.YtodpkdajbnceoaaGreatDoor
open Go.RowKit

/-! Prims that begin with a sign. -/

theorem bare_sign {toks : List Tok} (ht : TTs toks) (ex : St → R Ex) (st : St) (hw : ¬ ((tk toks st.1).k = 110 ∨ (tk toks st.1).k = 118 ∨ (tk toks st.1).k = 97)) :
    bareOf toks ex st = if decide ((tk toks st.1).t = B [45]) then (if (tk toks (st.1 + 1)).k = 110 then .ok (.num (-(digVal (tk toks (st.1 + 1)).t.data.toList)), (st.1 + 2, st.2)) else .error (2, (tk toks (st.1 + 1)).a))
      else if decide ((tk toks st.1).t = B [40]) then (match ex (st.1 + 1, st.2) with | .error e => .error e | .ok (x, st') => mustT toks [41] x st')
      else if decide ((tk toks st.1).t = B [91]) then listOf toks ex (st.1 + 1, st.2) else .error (2, (tk toks st.1).a) := by
  have htt := ht st.1
  rw [← htt.isT (s := [45]) (by unfold SignLike; decide), ← htt.isT (s := [40]) (by unfold SignLike; decide), ← htt.isT (s := [91]) (by unfold SignLike; decide)]
  unfold bareOf
  simp only [if_neg (fun e => hw (.inl e)), if_neg (fun e => hw (.inr (.inl e))), if_neg (fun e => hw (.inr (.inr e)))]
  rfl
set_option maxRecDepth 100000 in
set_option maxHeartbeats 2000000 in
theorem prim_minus_c {toks : List Tok} (hg : GoodToks toks) (ht : TTs toks) (ex : St → R Ex) (hpo : PartOk toks ex) {d : Int} (hd0 : 0 ≤ d) (hd7 : d ≤ 7) (HP : RReads 139 toks (d + 1) ex) (w : World) (bp : Nat) (lv vv : Value) (st : St) (vbs : List Nat) (h : RIn w bp toks lv vv st.1 d st.2 vbs)
    (hw : ¬ ((tk toks st.1).k = 110 ∨ (tk toks st.1).k = 118 ∨ (tk toks st.1).k = 97)) (q45 : (tk toks st.1).t = B [45]) :
    Calls Tryz.prog 226 #[ptrV bp] w fun e w' => RPost toks bp lv vv d vbs w (bareOf toks ex st) e w' := by
  have HD := hide (down_d h hg hd0 hd7)
  have HN := hide (fun w' (h' : RIn w' bp toks lv vv st.1 (d + 1) st.2 vbs) => now_c h' hg)
  have ff0 := tok_f0
  have htt := ht st.1
  have hb0 := bare_sign ht ex st hw
  obtain ⟨t, hT⟩ : ∃ t, t = tk toks st.1 := ⟨_, rfl⟩
  rw [← hT] at HN htt hw hb0 q45
  obtain ⟨K, hK⟩ : ∃ K, K = kC t.k := ⟨_, rfl⟩
  have k2 : ¬ K = 2 := fun e => hw (.inl (htt.kC_num.1 (by rw [← hK]; exact e)))
  have k1 : ¬ K = 1 := fun e => hw (.inr (.inl (htt.kC_var.1 (by rw [← hK]; exact e))))
  have k0 : ¬ K = 0 := fun e => hw (.inr (.inr (htt.kC_name.1 (by rw [← hK]; exact e))))
  have HK := hide hK.symm
  unfold tokVC tokB at HN
  rw [← hK] at HN
  clear hK htt hw h
  rw [decide_eq_true q45, if_pos rfl] at hb0
  have HT45 : Hid (∀ w', RIn w' bp toks lv vv st.1 (d + 1) st.2 vbs → Calls Tryz.prog 201 #[ptrV bp, .string (B [45])] w' fun e w'' => e = .returned (.bool true) ∧ RIn w'' bp toks lv vv (st.1 + 1) (d + 1) st.2 vbs ∧ Fr bp vv vv w' w'') := fun w' h' => by have := takes_c h' hg ht (B [45]); rw [if_pos (by rw [← hT]; exact q45), decide_eq_true (by rw [← hT]; exact q45), stepI_sign (s := [45]) ht (by decide) (by rw [← hT]; exact q45)] at this; exact this
  have HM := hide (fun w' (h' : RIn w' bp toks lv vv (st.1 + 1) (d + 1) st.2 vbs) => number_c h' hg ht (-1) (.inr rfl))
  by_cases hn : (tk toks (st.1 + 1)).k = 110
  · have HR : Hid (bareOf toks ex st = .ok (.num (-(digVal (tk toks (st.1 + 1)).t.data.toList)), (st.1 + 2, st.2))) := by rw [Hid, hb0, if_pos hn]
    have HM' : Hid (∀ w', RIn w' bp toks lv vv (st.1 + 1) (d + 1) st.2 vbs → Calls Tryz.prog 276 #[ptrV bp, .int .i64 (-1)] w' fun e w'' => e = .returned (.iface 339 (.int .i64 (-(digVal (tk toks (st.1 + 1)).t.data.toList)))) ∧ RIn w'' bp toks lv vv (st.1 + 1 + 1) (d + 1) st.2 vbs ∧ Fr bp vv vv w' w'') := fun w' h' => (HM.out w' h').mono fun e w'' hh => by have := hh.1 hn; simpa using this
    clear HM hn hb0 hT q45
    unfold ptrV at *
    go_enter_defers Tryz.func226, Tryz.ntmps226
    go_wp2_with (first | (go_at_call 243; refine HD.out.mono ?_; rintro e w1 ⟨Bx, rfl, hDp, hR1⟩) | (go_at_call 156; refine (HN.out _ hR1).mono ?_; rintro e w2 ⟨rfl, rfl⟩; have hR2 := (hR1.alloc (tokB t)).drew; have hF2 : Fr bp vv vv w1 _ := ((Fr.refl bp vv w1).alloc (tokB t)).drew; unfold tokB at hR2 hF2; rw [HK.out] at hR2 hF2) | (go_at_call 201; refine (HT45.out _ hR2).mono ?_; clear HT45; rintro e w3 ⟨rfl, hR3, hF3⟩) | (go_at_call 276; refine (HM'.out _ hR3).mono ?_; rintro e w9 ⟨rfl, hR9, hF9⟩))
    obtain ⟨c1, c2, c3, hp⟩ := RPost.up_ok hDp HR.out (.num _) hR9 (List.prefix_refl _) (hF2.trans (hF3.trans hF9))
    exact leaves_up hd0 hd7 (by simp) c1 c2 c3 ⟨_, results_tmp (t := 2) rfl _ _ _, hp⟩
  · have HR : Hid (bareOf toks ex st = .error (2, (tk toks (st.1 + 1)).a)) := by rw [Hid, hb0, if_neg hn]
    have HM' : Hid (∀ w', RIn w' bp toks lv vv (st.1 + 1) (d + 1) st.2 vbs → Calls Tryz.prog 276 #[ptrV bp, .int .i64 (-1)] w' fun e w'' => RFault 2 (tk toks (st.1 + 1)).a bp lv vv (d + 1) w' e w'') := fun w' h' => (HM.out w' h').mono fun e w'' hh => hh.2 hn
    clear HM hn hb0 hT q45
    unfold ptrV at *
    go_enter_defers Tryz.func226, Tryz.ntmps226
    go_wp2_with (first | (go_at_call 243; refine HD.out.mono ?_; rintro e w1 ⟨Bx, rfl, hDp, hR1⟩) | (go_at_call 156; refine (HN.out _ hR1).mono ?_; rintro e w2 ⟨rfl, rfl⟩; have hR2 := (hR1.alloc (tokB t)).drew; have hF2 : Fr bp vv vv w1 _ := ((Fr.refl bp vv w1).alloc (tokB t)).drew; unfold tokB at hR2 hF2; rw [HK.out] at hR2 hF2) | (go_at_call 201; refine (HT45.out _ hR2).mono ?_; clear HT45; rintro e w3 ⟨rfl, hR3, hF3⟩) | (go_at_call 276; refine (HM'.out _ hR3).mono ?_; rintro e w9 hF; have hF' := hF; obtain ⟨g, vv', i', h1, rfl, h3⟩ := hF))
    obtain ⟨c1, c2, c3, hp⟩ := RPost.up_err hDp (hF'.after (hF2.trans hF3))
    exact leaves_up hd0 hd7 (by simp) c1 c2 c3 (RPost.errI HR.out hp)

set_option maxRecDepth 100000 in
set_option maxHeartbeats 2000000 in
theorem prim_paren_c {toks : List Tok} (hg : GoodToks toks) (ht : TTs toks) (ex : St → R Ex) (hpo : PartOk toks ex) {d : Int} (hd0 : 0 ≤ d) (hd7 : d ≤ 7) (HP : RReads 139 toks (d + 1) ex) (w : World) (bp : Nat) (lv vv : Value) (st : St) (vbs : List Nat) (h : RIn w bp toks lv vv st.1 d st.2 vbs)
    (hw : ¬ ((tk toks st.1).k = 110 ∨ (tk toks st.1).k = 118 ∨ (tk toks st.1).k = 97)) (n45 : ¬ (tk toks st.1).t = B [45]) (q40 : (tk toks st.1).t = B [40]) :
    Calls Tryz.prog 226 #[ptrV bp] w fun e w' => RPost toks bp lv vv d vbs w (bareOf toks ex st) e w' := by
  have HD := hide (down_d h hg hd0 hd7)
  have HN := hide (fun w' (h' : RIn w' bp toks lv vv st.1 (d + 1) st.2 vbs) => now_c h' hg)
  have ff0 := tok_f0
  have htt := ht st.1
  have hb0 := bare_sign ht ex st hw
  obtain ⟨t, hT⟩ : ∃ t, t = tk toks st.1 := ⟨_, rfl⟩
  rw [← hT] at HN htt hw hb0 n45 q40
  obtain ⟨K, hK⟩ : ∃ K, K = kC t.k := ⟨_, rfl⟩
  have k2 : ¬ K = 2 := fun e => hw (.inl (htt.kC_num.1 (by rw [← hK]; exact e)))
  have k1 : ¬ K = 1 := fun e => hw (.inr (.inl (htt.kC_var.1 (by rw [← hK]; exact e))))
  have k0 : ¬ K = 0 := fun e => hw (.inr (.inr (htt.kC_name.1 (by rw [← hK]; exact e))))
  have HK := hide hK.symm
  unfold tokVC tokB at HN
  rw [← hK] at HN
  clear hK htt hw h
  rw [decide_eq_false n45, if_neg (by simp), decide_eq_true q40, if_pos rfl] at hb0
  have HT45 : Hid (∀ w', RIn w' bp toks lv vv st.1 (d + 1) st.2 vbs → Calls Tryz.prog 201 #[ptrV bp, .string (B [45])] w' fun e w'' => e = .returned (.bool false) ∧ RIn w'' bp toks lv vv st.1 (d + 1) st.2 vbs ∧ Fr bp vv vv w' w'') := fun w' h' => by have := takes_c h' hg ht (B [45]); rw [← hT, if_neg n45, decide_eq_false n45] at this; exact this
  have HT40 : Hid (∀ w', RIn w' bp toks lv vv st.1 (d + 1) st.2 vbs → Calls Tryz.prog 201 #[ptrV bp, .string (B [40])] w' fun e w'' => e = .returned (.bool true) ∧ RIn w'' bp toks lv vv (st.1 + 1) (d + 1) st.2 vbs ∧ Fr bp vv vv w' w'') := fun w' h' => by have := takes_c h' hg ht (B [40]); rw [if_pos (by rw [← hT]; exact q40), decide_eq_true (by rw [← hT]; exact q40), stepI_sign (s := [40]) ht (by decide) (by rw [← hT]; exact q40)] at this; exact this
  have HPx := hide (fun w' (h' : RIn w' bp toks lv vv (st.1 + 1) (d + 1) st.2 vbs) => HP w' bp lv vv (st.1 + 1, st.2) vbs h')
  cases hex : ex (st.1 + 1, st.2) with
  | error p =>
    obtain ⟨er, a⟩ := p
    rw [hex] at HPx hb0
    have HPx' : Hid (∀ w', RIn w' bp toks lv vv (st.1 + 1) (d + 1) st.2 vbs → Calls Tryz.prog 139 #[ptrV bp] w' fun e w'' => RFault er a bp lv vv (d + 1) w' e w'') := HPx.out
    have HR : Hid (bareOf toks ex st = .error (er, a)) := hb0
    clear HPx hex hb0 hT q40 n45
    unfold ptrV at *
    go_enter_defers Tryz.func226, Tryz.ntmps226
    go_wp2_with (first | (go_at_call 243; refine HD.out.mono ?_; rintro e w1 ⟨Bx, rfl, hDp, hR1⟩) | (go_at_call 156; refine (HN.out _ hR1).mono ?_; rintro e w2 ⟨rfl, rfl⟩; have hR2 := (hR1.alloc (tokB t)).drew; have hF2 : Fr bp vv vv w1 _ := ((Fr.refl bp vv w1).alloc (tokB t)).drew; unfold tokB at hR2 hF2; rw [HK.out] at hR2 hF2) | (go_at_call 201; refine (HT45.out _ hR2).mono ?_; clear HT45; rintro e w3 ⟨rfl, hR3, hF3⟩) | (go_at_call 201; refine (HT40.out _ hR3).mono ?_; clear HT40; rintro e w4 ⟨rfl, hR4, hF4⟩) | (go_at_call 139; refine (HPx'.out _ hR4).mono ?_; rintro e w9 hF; have hF' := hF; obtain ⟨g, vv', i', h1, rfl, h3⟩ := hF))
    obtain ⟨c1, c2, c3, hp⟩ := RPost.up_err hDp (hF'.after (hF2.trans (hF3.trans hF4)))
    exact leaves_up hd0 hd7 (by simp) c1 c2 c3 (RPost.errI HR.out hp)
  | ok p =>
    obtain ⟨x, st2⟩ := p
    rw [hex] at HPx hb0
    have HPx' : Hid (∀ w', RIn w' bp toks lv vv (st.1 + 1) (d + 1) st.2 vbs → Calls Tryz.prog 139 #[ptrV bp] w' fun e w'' => ∃ (u vv' : Value) (vbs' : List Nat), e = .returned u ∧ TRep w'' (fun b => w'.heap.size ≤ b) vbs' x u ∧ RIn w'' bp toks lv vv' st2.1 (d + 1) st2.2 vbs' ∧ vbs <+: vbs' ∧ Fr bp vv vv' w' w'') := HPx.out
    have hisT3 := (ht st2.1).isT (s := [41]) (by unfold SignLike; decide)
    have hmu : bareOf toks ex st = if isT (tk toks st2.1) [41] then .ok (x, (st2.1 + 1, st2.2)) else .error (2, (tk toks st2.1).a) := hb0
    rw [hisT3] at hmu
    have HM := hide (fun (w' : World) (vv' : Value) (vbs' : List Nat) (h' : RIn w' bp toks lv vv' st2.1 (d + 1) st2.2 vbs') => must_c h' hg ht (B [41]))
    by_cases hq3 : (tk toks st2.1).t = B [41]
    · have HR : Hid (bareOf toks ex st = .ok (x, (st2.1 + 1, st2.2))) := hmu.trans (by rw [decide_eq_true hq3, if_pos rfl])
      have HM' : Hid (∀ (w' : World) (vv' : Value) (vbs' : List Nat), RIn w' bp toks lv vv' st2.1 (d + 1) st2.2 vbs' → Calls Tryz.prog 159 #[ptrV bp, .string (B [41])] w' fun e w'' => e = .returned (.tuple #[]) ∧ RIn w'' bp toks lv vv' (st2.1 + 1) (d + 1) st2.2 vbs' ∧ Fr bp vv' vv' w' w'') := fun w' vv' vbs' h' => (HM.out w' vv' vbs' h').mono fun e w'' h => by have := h.1 hq3; rwa [stepI_sign (s := [41]) ht (by decide) hq3] at this
      clear HM hmu hisT3 hq3 HPx hex hb0 hT q40 n45
      unfold ptrV at *
      go_enter_defers Tryz.func226, Tryz.ntmps226
      go_wp2_with (first | (go_at_call 243; refine HD.out.mono ?_; rintro e w1 ⟨Bx, rfl, hDp, hR1⟩) | (go_at_call 156; refine (HN.out _ hR1).mono ?_; rintro e w2 ⟨rfl, rfl⟩; have hR2 := (hR1.alloc (tokB t)).drew; have hF2 : Fr bp vv vv w1 _ := ((Fr.refl bp vv w1).alloc (tokB t)).drew; unfold tokB at hR2 hF2; rw [HK.out] at hR2 hF2) | (go_at_call 201; refine (HT45.out _ hR2).mono ?_; clear HT45; rintro e w3 ⟨rfl, hR3, hF3⟩) | (go_at_call 201; refine (HT40.out _ hR3).mono ?_; clear HT40; rintro e w4 ⟨rfl, hR4, hF4⟩) | (go_at_call 139; refine (HPx'.out _ hR4).mono ?_; rintro e w8 ⟨u8, vv8, vbs8, rfl, r1, r2, r3, r4⟩; obtain ⟨tu8, vu8, hu8, _⟩ := r1.form; subst hu8) | (go_at_call 159; refine (HM'.out _ _ _ r2).mono ?_; rintro e w9 ⟨rfl, s1, s2⟩))
      obtain ⟨c1, c2, c3, hp⟩ := RPost.up_ok hDp HR.out (r1.frame (r2.tkeeps s2) (fun b hb _ => Nat.le_trans (hF2.trans (hF3.trans hF4)).size hb) (List.prefix_refl _)) s1 (r3) (hF2.trans (hF3.trans (hF4.trans (r4.trans s2))))
      exact leaves_up hd0 hd7 (by simp) c1 c2 c3 ⟨_, results_tmp (t := 2) rfl _ _ _, hp⟩
    · have HR : Hid (bareOf toks ex st = .error (2, (tk toks st2.1).a)) := hmu.trans (by rw [decide_eq_false hq3, if_neg (by simp)])
      have HM' : Hid (∀ (w' : World) (vv' : Value) (vbs' : List Nat), RIn w' bp toks lv vv' st2.1 (d + 1) st2.2 vbs' → Calls Tryz.prog 159 #[ptrV bp, .string (B [41])] w' fun e w'' => RFault 2 (tk toks st2.1).a bp lv vv' (d + 1) w' e w'') := fun w' vv' vbs' h' => (HM.out w' vv' vbs' h').mono fun e w'' h => h.2 hq3
      clear HM hmu hisT3 hq3 HPx hex hb0 hT q40 n45
      unfold ptrV at *
      go_enter_defers Tryz.func226, Tryz.ntmps226
      go_wp2_with (first | (go_at_call 243; refine HD.out.mono ?_; rintro e w1 ⟨Bx, rfl, hDp, hR1⟩) | (go_at_call 156; refine (HN.out _ hR1).mono ?_; rintro e w2 ⟨rfl, rfl⟩; have hR2 := (hR1.alloc (tokB t)).drew; have hF2 : Fr bp vv vv w1 _ := ((Fr.refl bp vv w1).alloc (tokB t)).drew; unfold tokB at hR2 hF2; rw [HK.out] at hR2 hF2) | (go_at_call 201; refine (HT45.out _ hR2).mono ?_; clear HT45; rintro e w3 ⟨rfl, hR3, hF3⟩) | (go_at_call 201; refine (HT40.out _ hR3).mono ?_; clear HT40; rintro e w4 ⟨rfl, hR4, hF4⟩) | (go_at_call 139; refine (HPx'.out _ hR4).mono ?_; rintro e w8 ⟨u8, vv8, vbs8, rfl, r1, r2, r3, r4⟩; obtain ⟨tu8, vu8, hu8, _⟩ := r1.form; subst hu8) | (go_at_call 159; refine (HM'.out _ _ _ r2).mono ?_; rintro e w9 hF; have hF' := hF; obtain ⟨g, vv', i', h1, rfl, h3⟩ := hF))
      obtain ⟨c1, c2, c3, hp⟩ := RPost.up_err hDp (hF'.after (hF2.trans (hF3.trans (hF4.trans r4))))
      exact leaves_up hd0 hd7 (by simp) c1 c2 c3 (RPost.errI HR.out hp)


end Go.Proofs.YtodpkdajbnceoaaGreatDoor

namespace Go.Proofs.YtodpkdajbnceoaaGreatDoor
open Go.RowKit

set_option maxRecDepth 100000 in
set_option maxHeartbeats 2000000 in
theorem prim_list_c {toks : List Tok} (hg : GoodToks toks) (ht : TTs toks) (ex : St → R Ex) (hpo : PartOk toks ex) {d : Int} (hd0 : 0 ≤ d) (hd7 : d ≤ 7) (HP : RReads 139 toks (d + 1) ex) (w : World) (bp : Nat) (lv vv : Value) (st : St) (vbs : List Nat) (h : RIn w bp toks lv vv st.1 d st.2 vbs)
    (hw : ¬ ((tk toks st.1).k = 110 ∨ (tk toks st.1).k = 118 ∨ (tk toks st.1).k = 97)) (n45 : ¬ (tk toks st.1).t = B [45]) (n40 : ¬ (tk toks st.1).t = B [40]) (q91 : (tk toks st.1).t = B [91]) :
    Calls Tryz.prog 226 #[ptrV bp] w fun e w' => RPost toks bp lv vv d vbs w (bareOf toks ex st) e w' := by
  have HD := hide (down_d h hg hd0 hd7)
  have HN := hide (fun w' (h' : RIn w' bp toks lv vv st.1 (d + 1) st.2 vbs) => now_c h' hg)
  have ff0 := tok_f0
  have htt := ht st.1
  have hb0 := bare_sign ht ex st hw
  obtain ⟨t, hT⟩ : ∃ t, t = tk toks st.1 := ⟨_, rfl⟩
  rw [← hT] at HN htt hw hb0 n45 n40 q91
  obtain ⟨K, hK⟩ : ∃ K, K = kC t.k := ⟨_, rfl⟩
  have k2 : ¬ K = 2 := fun e => hw (.inl (htt.kC_num.1 (by rw [← hK]; exact e)))
  have k1 : ¬ K = 1 := fun e => hw (.inr (.inl (htt.kC_var.1 (by rw [← hK]; exact e))))
  have k0 : ¬ K = 0 := fun e => hw (.inr (.inr (htt.kC_name.1 (by rw [← hK]; exact e))))
  have HK := hide hK.symm
  unfold tokVC tokB at HN
  rw [← hK] at HN
  clear hK htt hw h
  rw [decide_eq_false n45, if_neg (by simp), decide_eq_false n40, if_neg (by simp), decide_eq_true q91, if_pos rfl] at hb0
  have HT45 : Hid (∀ w', RIn w' bp toks lv vv st.1 (d + 1) st.2 vbs → Calls Tryz.prog 201 #[ptrV bp, .string (B [45])] w' fun e w'' => e = .returned (.bool false) ∧ RIn w'' bp toks lv vv st.1 (d + 1) st.2 vbs ∧ Fr bp vv vv w' w'') := fun w' h' => by have := takes_c h' hg ht (B [45]); rw [← hT, if_neg n45, decide_eq_false n45] at this; exact this
  have HT40 : Hid (∀ w', RIn w' bp toks lv vv st.1 (d + 1) st.2 vbs → Calls Tryz.prog 201 #[ptrV bp, .string (B [40])] w' fun e w'' => e = .returned (.bool false) ∧ RIn w'' bp toks lv vv st.1 (d + 1) st.2 vbs ∧ Fr bp vv vv w' w'') := fun w' h' => by have := takes_c h' hg ht (B [40]); rw [← hT, if_neg n40, decide_eq_false n40] at this; exact this
  have HT91 : Hid (∀ w', RIn w' bp toks lv vv st.1 (d + 1) st.2 vbs → Calls Tryz.prog 201 #[ptrV bp, .string (B [91])] w' fun e w'' => e = .returned (.bool true) ∧ RIn w'' bp toks lv vv (st.1 + 1) (d + 1) st.2 vbs ∧ Fr bp vv vv w' w'') := fun w' h' => by have := takes_c h' hg ht (B [91]); rw [if_pos (by rw [← hT]; exact q91), decide_eq_true (by rw [← hT]; exact q91), stepI_sign (s := [91]) ht (by decide) (by rw [← hT]; exact q91)] at this; exact this
  have HV := hide (fun w' (h' : RIn w' bp toks lv vv (st.1 + 1) (d + 1) st.2 vbs) => brackets_c hg ht ex hpo HP w' bp lv vv (st.1 + 1, st.2) vbs h')
  cases hr : listOf toks ex (st.1 + 1, st.2) with
  | error p =>
    obtain ⟨er, a⟩ := p
    rw [hr] at HV
    have HV' : Hid (∀ w', RIn w' bp toks lv vv (st.1 + 1) (d + 1) st.2 vbs → Calls Tryz.prog 279 #[ptrV bp] w' fun e w'' => RFault er a bp lv vv (d + 1) w' e w'') := HV.out
    have HR : Hid (bareOf toks ex st = .error (er, a)) := by rw [Hid, hb0, hr]
    clear HV hr hb0 hT q91 n45 n40
    unfold ptrV at *
    go_enter_defers Tryz.func226, Tryz.ntmps226
    go_wp2_with (first | (go_at_call 243; refine HD.out.mono ?_; rintro e w1 ⟨Bx, rfl, hDp, hR1⟩) | (go_at_call 156; refine (HN.out _ hR1).mono ?_; rintro e w2 ⟨rfl, rfl⟩; have hR2 := (hR1.alloc (tokB t)).drew; have hF2 : Fr bp vv vv w1 _ := ((Fr.refl bp vv w1).alloc (tokB t)).drew; unfold tokB at hR2 hF2; rw [HK.out] at hR2 hF2) | (go_at_call 201; refine (HT45.out _ hR2).mono ?_; clear HT45; rintro e w3 ⟨rfl, hR3, hF3⟩) | (go_at_call 201; refine (HT40.out _ hR3).mono ?_; clear HT40; rintro e w4 ⟨rfl, hR4, hF4⟩) | (go_at_call 201; refine (HT91.out _ hR4).mono ?_; clear HT91; rintro e w5 ⟨rfl, hR5, hF5⟩) | (go_at_call 279; refine (HV'.out _ hR5).mono ?_; rintro e w9 hF; have hF' := hF; obtain ⟨g, vv', i', h1, rfl, h3⟩ := hF))
    obtain ⟨c1, c2, c3, hp⟩ := RPost.up_err hDp (hF'.after (hF2.trans (hF3.trans (hF4.trans hF5))))
    exact leaves_up hd0 hd7 (by simp) c1 c2 c3 (RPost.errI HR.out hp)
  | ok p =>
    obtain ⟨x, st2⟩ := p
    rw [hr] at HV
    have HV' : Hid (∀ w', RIn w' bp toks lv vv (st.1 + 1) (d + 1) st.2 vbs → Calls Tryz.prog 279 #[ptrV bp] w' fun e w'' => ∃ (u vv' : Value) (vbs' : List Nat), e = .returned u ∧ TRep w'' (fun b => w'.heap.size ≤ b) vbs' x u ∧ RIn w'' bp toks lv vv' st2.1 (d + 1) st2.2 vbs' ∧ vbs <+: vbs' ∧ Fr bp vv vv' w' w'') := HV.out
    have HR : Hid (bareOf toks ex st = .ok (x, st2)) := by rw [Hid, hb0, hr]
    clear HV hr hb0 hT q91 n45 n40
    unfold ptrV at *
    go_enter_defers Tryz.func226, Tryz.ntmps226
    go_wp2_with (first | (go_at_call 243; refine HD.out.mono ?_; rintro e w1 ⟨Bx, rfl, hDp, hR1⟩) | (go_at_call 156; refine (HN.out _ hR1).mono ?_; rintro e w2 ⟨rfl, rfl⟩; have hR2 := (hR1.alloc (tokB t)).drew; have hF2 : Fr bp vv vv w1 _ := ((Fr.refl bp vv w1).alloc (tokB t)).drew; unfold tokB at hR2 hF2; rw [HK.out] at hR2 hF2) | (go_at_call 201; refine (HT45.out _ hR2).mono ?_; clear HT45; rintro e w3 ⟨rfl, hR3, hF3⟩) | (go_at_call 201; refine (HT40.out _ hR3).mono ?_; clear HT40; rintro e w4 ⟨rfl, hR4, hF4⟩) | (go_at_call 201; refine (HT91.out _ hR4).mono ?_; clear HT91; rintro e w5 ⟨rfl, hR5, hF5⟩) | (go_at_call 279; refine (HV'.out _ hR5).mono ?_; rintro e w9 ⟨u9, vv9, vbs9, rfl, r1, r2, r3, r4⟩; obtain ⟨tu9, vu9, hu9, _⟩ := r1.form; subst hu9))
    obtain ⟨c1, c2, c3, hp⟩ := RPost.up_ok hDp HR.out (r1.mono (fun b hb _ => Nat.le_trans (hF2.trans (hF3.trans (hF4.trans hF5))).size hb)) r2 (r3) (hF2.trans (hF3.trans (hF4.trans (hF5.trans r4))))
    exact leaves_up hd0 hd7 (by simp) c1 c2 c3 ⟨_, results_tmp (t := 2) rfl _ _ _, hp⟩

set_option maxRecDepth 100000 in
set_option maxHeartbeats 2000000 in
theorem prim_none_c {toks : List Tok} (hg : GoodToks toks) (ht : TTs toks) (ex : St → R Ex) (hpo : PartOk toks ex) {d : Int} (hd0 : 0 ≤ d) (hd7 : d ≤ 7) (HP : RReads 139 toks (d + 1) ex) (w : World) (bp : Nat) (lv vv : Value) (st : St) (vbs : List Nat) (h : RIn w bp toks lv vv st.1 d st.2 vbs)
    (hw : ¬ ((tk toks st.1).k = 110 ∨ (tk toks st.1).k = 118 ∨ (tk toks st.1).k = 97)) (n45 : ¬ (tk toks st.1).t = B [45]) (n40 : ¬ (tk toks st.1).t = B [40]) (n91 : ¬ (tk toks st.1).t = B [91]) :
    Calls Tryz.prog 226 #[ptrV bp] w fun e w' => RPost toks bp lv vv d vbs w (bareOf toks ex st) e w' := by
  have HD := hide (down_d h hg hd0 hd7)
  have HN := hide (fun w' (h' : RIn w' bp toks lv vv st.1 (d + 1) st.2 vbs) => now_c h' hg)
  have ff0 := tok_f0
  have htt := ht st.1
  have hb0 := bare_sign ht ex st hw
  obtain ⟨t, hT⟩ : ∃ t, t = tk toks st.1 := ⟨_, rfl⟩
  rw [← hT] at HN htt hw hb0 n45 n40 n91
  obtain ⟨K, hK⟩ : ∃ K, K = kC t.k := ⟨_, rfl⟩
  have k2 : ¬ K = 2 := fun e => hw (.inl (htt.kC_num.1 (by rw [← hK]; exact e)))
  have k1 : ¬ K = 1 := fun e => hw (.inr (.inl (htt.kC_var.1 (by rw [← hK]; exact e))))
  have k0 : ¬ K = 0 := fun e => hw (.inr (.inr (htt.kC_name.1 (by rw [← hK]; exact e))))
  have HK := hide hK.symm
  unfold tokVC tokB at HN
  rw [← hK] at HN
  clear hK htt hw h
  rw [decide_eq_false n45, if_neg (by simp), decide_eq_false n40, if_neg (by simp), decide_eq_false n91, if_neg (by simp)] at hb0
  have HT45 : Hid (∀ w', RIn w' bp toks lv vv st.1 (d + 1) st.2 vbs → Calls Tryz.prog 201 #[ptrV bp, .string (B [45])] w' fun e w'' => e = .returned (.bool false) ∧ RIn w'' bp toks lv vv st.1 (d + 1) st.2 vbs ∧ Fr bp vv vv w' w'') := fun w' h' => by have := takes_c h' hg ht (B [45]); rw [← hT, if_neg n45, decide_eq_false n45] at this; exact this
  have HT40 : Hid (∀ w', RIn w' bp toks lv vv st.1 (d + 1) st.2 vbs → Calls Tryz.prog 201 #[ptrV bp, .string (B [40])] w' fun e w'' => e = .returned (.bool false) ∧ RIn w'' bp toks lv vv st.1 (d + 1) st.2 vbs ∧ Fr bp vv vv w' w'') := fun w' h' => by have := takes_c h' hg ht (B [40]); rw [← hT, if_neg n40, decide_eq_false n40] at this; exact this
  have HT91 : Hid (∀ w', RIn w' bp toks lv vv st.1 (d + 1) st.2 vbs → Calls Tryz.prog 201 #[ptrV bp, .string (B [91])] w' fun e w'' => e = .returned (.bool false) ∧ RIn w'' bp toks lv vv st.1 (d + 1) st.2 vbs ∧ Fr bp vv vv w' w'') := fun w' h' => by have := takes_c h' hg ht (B [91]); rw [← hT, if_neg n91, decide_eq_false n91] at this; exact this
  have HM := hide (fun (w' : World) (h' : RIn w' bp toks lv vv st.1 (d + 1) st.2 vbs) => misplaced_c h' hg)
  rw [← hT] at HM
  have HR : Hid (bareOf toks ex st = .error (2, t.a)) := hb0
  clear hb0 hT n45 n40 n91
  unfold ptrV at *
  go_enter_defers Tryz.func226, Tryz.ntmps226
  go_wp2_with (first | (go_at_call 243; refine HD.out.mono ?_; rintro e w1 ⟨Bx, rfl, hDp, hR1⟩) | (go_at_call 156; refine (HN.out _ hR1).mono ?_; rintro e w2 ⟨rfl, rfl⟩; have hR2 := (hR1.alloc (tokB t)).drew; have hF2 : Fr bp vv vv w1 _ := ((Fr.refl bp vv w1).alloc (tokB t)).drew; unfold tokB at hR2 hF2; rw [HK.out] at hR2 hF2) | (go_at_call 201; refine (HT45.out _ hR2).mono ?_; clear HT45; rintro e w3 ⟨rfl, hR3, hF3⟩) | (go_at_call 201; refine (HT40.out _ hR3).mono ?_; clear HT40; rintro e w4 ⟨rfl, hR4, hF4⟩) | (go_at_call 201; refine (HT91.out _ hR4).mono ?_; clear HT91; rintro e w5 ⟨rfl, hR5, hF5⟩) | (go_at_call 157; refine (HM.out _ hR5).mono ?_; rintro e w9 ⟨g, hg2, rfl, hcell, hB⟩))
  obtain ⟨c1, c2, c3, hp⟩ := RPost.up_err hDp ((hR5.faulted hg2 hcell hB).after (hF2.trans (hF3.trans (hF4.trans hF5))))
  exact leaves_up hd0 hd7 (by simp) c1 c2 c3 (RPost.errI HR.out hp)

theorem prim_succ_c {toks : List Tok} (hg : GoodToks toks) (ht : TTs toks) (ex : St → R Ex) (hpo : PartOk toks ex) {d : Int} (hd0 : 0 ≤ d) (hd7 : d ≤ 7) (HP : RReads 139 toks (d + 1) ex) : RReads 226 toks d (bareOf toks ex) := by
  intro w bp lv vv st vbs h
  by_cases hw : (tk toks st.1).k = 110 ∨ (tk toks st.1).k = 118 ∨ (tk toks st.1).k = 97
  · exact prim_word_c hg ht ex hpo hd0 hd7 HP w bp lv vv st vbs h hw
  · by_cases q45 : (tk toks st.1).t = B [45]
    · exact prim_minus_c hg ht ex hpo hd0 hd7 HP w bp lv vv st vbs h hw q45
    · by_cases q40 : (tk toks st.1).t = B [40]
      · exact prim_paren_c hg ht ex hpo hd0 hd7 HP w bp lv vv st vbs h hw q45 q40
      · by_cases q91 : (tk toks st.1).t = B [91]
        · exact prim_list_c hg ht ex hpo hd0 hd7 HP w bp lv vv st vbs h hw q45 q40 q91
        · exact prim_none_c hg ht ex hpo hd0 hd7 HP w bp lv vv st vbs h hw q45 q40 q91

end Go.Proofs.YtodpkdajbnceoaaGreatDoor

/- Ranges over functions whose rounds may panic: a walk in frames of one function. -/
import Derived.Test.YtmjlaienklheiaaGv
namespace Go.Proofs
set_option maxRecDepth 100000
set_option maxRecDepth 100000
open Go.RowKit Go.Shelf
attribute [local go_sem] Oper.semAt_some

section
variable {P : Program} {fn : FuncId} {c x y : Code} {Q : Exit → Act → World → Prop} {a : Act} {w : World}
/-- The walk in the frames of one function, no round's. -/
def WpAt (P : Program) (fn : FuncId) (c : Code) (Q : Exit → Act → World → Prop) (a : Act) (w : World) : Prop :=
  ∀ (b : Frame) (k : List Item) (cs : List Frame), b.roundOf = none → b.fn = fn → ∃ e a' w', Q e a' w' ∧ ArrivesIn (Machine.fenced P Fence.wide) P (lone (b.atR a (.code c :: k)) cs w) b k cs e a' w'
theorem wpAt_of {n : Nat} (h : c.wpIn Fence.wide n P Q a w) : WpAt P fn c Q a w := fun b k cs hro _ => h b k cs hro trivial (room_wide _)
theorem wpAt_mono {Q' : Exit → Act → World → Prop} (h : WpAt P fn c Q a w) (hQ : ∀ e a' w', Q e a' w' → Q' e a' w') : WpAt P fn c Q' a w := fun b k cs hro hb =>
  let ⟨e, a', w', hq, harr⟩ := h b k cs hro hb
  ⟨e, a', w', hQ _ _ _ hq, harr⟩
theorem wpAt_seq (h : WpAt P fn x (Exit.then (WpAt P fn y Q) Q) a w) : WpAt P fn (.seq x y) Q a w := by
  intro b k cs hro hb
  obtain ⟨e, a₁, w₁, hq, harr⟩ := h b (.code y :: k) cs hro hb
  have s0 : StepsIn (Machine.fenced P Fence.wide) P (lone (b.atR a (.code (.seq x y) :: k)) cs w) (lone (b.atR a (.code x :: .code y :: k)) cs w) := .one (fenced_wide P _) stepR_seq
  cases e with
  | normal =>
    obtain ⟨e₂, a₂, w₂, hq₂, harr₂⟩ := hq b k cs hro hb
    exact ⟨e₂, a₂, w₂, hq₂, .of_steps (s0.trans harr) harr₂⟩
  | exit id => exact ⟨_, a₁, w₁, hq, .of_steps s0 (.pass (x := .code y) rfl (fun _ _ => .inl (by simp)) harr)⟩
  | goto l => exact ⟨_, a₁, w₁, hq, .of_steps s0 (.pass (x := .code y) rfl (fun _ _ => .inl (by simp)) harr)⟩
  | ret => exact ⟨_, a₁, w₁, hq, .of_steps s0 (.pass (x := .code y) rfl (fun _ _ => .inl (by simp)) harr)⟩
  | panic ch => exact ⟨_, a₁, w₁, hq, .of_steps s0 (.pass (x := .code y) rfl (fun _ _ => .inl (by simp)) harr)⟩
  | outgrown => exact ⟨_, a₁, w₁, hq, .of_steps s0 (.pass (x := .code y) rfl (fun _ _ => .inl (by simp)) harr)⟩
theorem wpAt_block {id : Nat} (h : WpAt P fn c (Exit.inBlock id Q) a w) : WpAt P fn (.block id c) Q a w := by
  intro b k cs hro hb
  obtain ⟨e, a₁, w₁, hq, harr⟩ := h b (.inBlock id :: k) cs hro hb
  have s0 : StepsIn (Machine.fenced P Fence.wide) P (lone (b.atR a (.code (.block id c) :: k)) cs w) (lone (b.atR a (.code c :: .inBlock id :: k)) cs w) := .one (fenced_wide P _) stepR_block
  have hn : b.roundOf.isSome ≠ true := by rw [hro]; simp
  cases e with
  | normal => exact ⟨.normal, a₁, w₁, hq, s0.trans (StepsIn.trans harr (.one (fenced_wide P _) stepR_inBlock))⟩
  | exit id' =>
    by_cases hid : id' = id
    · simp only [Exit.inBlock, hid, if_true] at hq
      exact ⟨.normal, a₁, w₁, hq, s0.trans (harr.1 k (by simp [exitTo, hid]))⟩
    · simp only [Exit.inBlock, hid, if_false] at hq
      have hx : exitTo id' (.inBlock id :: k) = exitTo id' k := by
        have hf : ¬ id = id' := fun h => hid h.symm
        simp [exitTo, hf]
      exact ⟨.exit id', a₁, w₁, hq, fun k' hk => s0.trans (harr.1 k' (by rw [hx]; exact hk)), fun h => absurd h hn⟩
  | goto l =>
    have hx : gotoIn l (.inBlock id :: k) = gotoIn l k := by simp [gotoIn]
    exact ⟨.goto l, a₁, w₁, hq, fun k' hk => s0.trans (harr.1 k' (by rw [hx]; exact hk)), fun h => absurd h hn⟩
  | ret => exact ⟨_, a₁, w₁, hq, .of_steps s0 harr⟩
  | panic ch => exact ⟨_, a₁, w₁, hq, .of_steps s0 harr⟩
  | outgrown => exact ⟨_, a₁, w₁, hq, .of_steps s0 harr⟩
theorem wpAt_scope (h : WpAt P fn c (Exit.noGoto Q) a w) : WpAt P fn (.scope c) Q a w := by
  intro b k cs hro hb
  obtain ⟨e, a₁, w₁, hq, harr⟩ := h b (.inScope c :: k) cs hro hb
  have s0 : StepsIn (Machine.fenced P Fence.wide) P (lone (b.atR a (.code (.scope c) :: k)) cs w) (lone (b.atR a (.code c :: .inScope c :: k)) cs w) := .one (fenced_wide P _) (by rw [Frame.atR_of_none hro, Frame.atR_of_none hro]; exact step_scope)
  have hn : b.roundOf.isSome ≠ true := by rw [hro]; simp
  cases e with
  | normal => exact ⟨.normal, a₁, w₁, hq, s0.trans (StepsIn.trans harr (.one (fenced_wide P _) (by rw [Frame.atR_of_none hro, Frame.atR_of_none hro]; exact step_inScope)))⟩
  | exit id => exact ⟨.exit id, a₁, w₁, hq, fun k' hk => s0.trans (harr.1 k' (by simp [exitTo, hk])), fun h => absurd h hn⟩
  | goto l => exact hq.elim
  | ret => exact ⟨_, a₁, w₁, hq, .of_steps s0 harr⟩
  | panic ch => exact ⟨_, a₁, w₁, hq, .of_steps s0 harr⟩
  | outgrown => exact ⟨_, a₁, w₁, hq, .of_steps s0 harr⟩

/-- A function's contract by such a walk. -/
theorem callsIn_of_wpAt {n : Nat} {fx : Func} {args : Array Value} {R : Ending → World → Prop} (hf : P.funcs[fn]? = some fx) (hb : fx.body = some c)
    (h : WpAt P fn c (bodyPostM Fence.wide n P fx R) { tmps := args ++ Array.replicate (fx.ntmps - args.size) undef, defers := [] } w) : CallsIn Fence.wide n P fn args w R := by
  refine ⟨trivial, fun cs hr => ?_⟩
  obtain ⟨b, hb1, hb2, hb3⟩ : ∃ b : Frame, b.fn = fn ∧ b.kind = .normal ∧ b.roundOf = none := ⟨{ (default : Frame) with fn := fn, kind := .normal, roundOf := none }, rfl, rfl, rfl⟩
  have henter : Frame.enter P fn args .normal = b.atR { tmps := args ++ Array.replicate (fx.ntmps - args.size) undef, defers := [] } [.code c] := by
    simp [Frame.enter, Frame.atR, hf, hb, hb1, hb2, hb3]
  obtain ⟨e, a', w', hq, harr⟩ := h b [] cs hb3 hb1
  rw [← henter] at harr
  have on : ∀ (u : FrameMode) (todo : List Item), StepsIn (Machine.fenced P Fence.wide) P (lone (Frame.enter P fn args .normal) cs w) (lone { b.atR a' todo with mode := u } cs w') → LeavesInM Fence.wide n P fx a'.tmps R a'.defers u w' →
      ∃ e w' fr, R e w' ∧ ComesIn (Machine.fenced P Fence.wide) P (lone (Frame.enter P fn args .normal) cs w) (lone fr cs w') e ∧ fr.fn = fn ∧ fr.leaving P w' e := fun u todo hs hl => by
    obtain ⟨e', w'', fr', hR, hs', hfn, hl'⟩ := leaves_stepsInM a'.defers u w' { b.atR a' todo with mode := u } cs rfl rfl rfl (by show P.funcs[b.fn]? = some fx; rw [hb1]; exact hf) hb2 trivial hr hl
    exact ⟨e', w'', fr', hR, ComesIn.of_steps hs hs', hfn.trans hb1, hl'⟩
  cases e with
  | normal => exact on .returning [] (StepsIn.trans harr (.one (fenced_wide P _) (stepR_end hb3))) hq
  | ret =>
    obtain ⟨todo, hs⟩ := harr.1 hb3
    exact on .returning todo hs hq
  | panic ch =>
    obtain ⟨todo, hs⟩ := harr
    exact on (.panicking ch) todo hs hq
  | exit id => exact hq.elim
  | goto l => exact hq.elim
  | outgrown => exact ⟨.outgrown, w', b, hq, harr.resolve_left (by simp [hb2]), hb1, trivial⟩

/-- What a round's body must achieve, where it may panic. -/
def roundPostP (P : Program) (l : Nat) (R : Ending → World → Prop) : Exit → Act → World → Prop
  | .panic ch, a, w => a.defers = [] ∧ R (.panicked ch) w
  | e, a, w => roundPost P l R e a w
theorem roundIn_of_wpP {n : Nat} {l : Nat} {f : FuncId} {fx : Func} {tmps : Array Value} {assign body : Code} {R : Ending → World → Prop} (hf : P.funcs[f]? = some fx)
    (h : assign.wpIn (Fence.wide.inRound l) n P (Exit.then (fun a₁ w₁ => ∃ w₂, (Instr.beginRound l).run P w₁ = .ok () w₂ ∧ body.wpIn (Fence.wide.inRound l) n P (roundPostP P l R) a₁ w₂) (fun _ _ _ => False))
      { tmps := tmps, defers := [] } w) : RoundIn Fence.wide n P l f tmps assign body w R := by
  refine ⟨trivial, fun c cs hr => ?_⟩
  obtain ⟨b, hb1, hb2, hb3, hb0⟩ : ∃ b : Frame, b.fn = f ∧ b.kind = .normal ∧ b.roundOf = some l ∧ Frame.round l f tmps assign body .normal = b.atR { tmps := tmps, defers := [] } [.code assign, .beginRound, .code body] :=
    ⟨{ (default : Frame) with fn := f, kind := .normal, roundOf := some l }, rfl, rfl, rfl, by simp [Frame.round, Frame.atR]⟩
  obtain ⟨e, a₁, w₁, hq, harr⟩ := h b [.beginRound, .code body] (c :: cs) hb3 trivial hr
  rw [← hb0] at harr
  cases e with
  | normal =>
    obtain ⟨w₂, hbr, hbody⟩ := hq
    have s2 := StepsIn.trans harr (.one (fenced_wide P _) (stepR_beginRound hb3 hbr))
    obtain ⟨e₂, a₂, w₃, hq₂, harr₂⟩ := hbody b [] (c :: cs) hb3 trivial hr
    cases e₂ with
    | normal =>
      obtain ⟨v, w₄, hend, hR⟩ := hq₂
      exact ⟨.returned v, w₄, hR, s2.trans (StepsIn.trans harr₂ (.one (fenced_wide P _) (stepR_round_end hb3 hb2 hend)))⟩
    | ret =>
      obtain ⟨v, w₄, hend, hR⟩ := hq₂
      obtain ⟨k₁, hs⟩ := harr₂.2 (by rw [hb3]; rfl)
      exact ⟨.returned v, w₄, hR, s2.trans (StepsIn.trans hs (.one (fenced_wide P _) (stepR_round_ret hb3 hb2 hend)))⟩
    | exit id =>
      obtain ⟨v, w₄, hend, hR⟩ := hq₂
      obtain ⟨k₁, hk, hs⟩ := harr₂.2 (by rw [hb3]; rfl) rfl
      exact ⟨.returned v, w₄, hR, s2.trans (StepsIn.trans hs (.one (fenced_wide P _) (stepR_round_exit hb3 hb2 hk hend)))⟩
    | goto t =>
      obtain ⟨v, w₄, hend, hR⟩ := hq₂
      obtain ⟨k₁, hk, hs⟩ := harr₂.2 (by rw [hb3]; rfl) rfl
      exact ⟨.returned v, w₄, hR, s2.trans (StepsIn.trans hs (.one (fenced_wide P _) (stepR_round_goto hb3 hb2 hk hend)))⟩
    | panic ch =>
      obtain ⟨hd, hR⟩ := hq₂
      obtain ⟨todo, hs⟩ := harr₂
      have hleave : Frame.leaving P { b.atR a₂ todo with mode := .panicking ch } w₃ (.panicked ch) := ⟨rfl, hd, fx, by show P.funcs[b.fn]? = some fx; rw [hb1]; exact hf⟩
      exact ⟨.panicked ch, w₃, hR, s2.trans (StepsIn.trans hs (.one (fenced_wide P _) (step_leave_panicked hleave)))⟩
    | outgrown => exact hq₂.elim
  | exit id => exact hq.elim
  | goto t => exact hq.elim
  | ret => exact hq.elim
  | panic ch => exact hq.elim
  | outgrown => exact hq.elim

/-- The statement, in a frame of one function. -/
theorem wpAt_rangeFunc {n : Nat} {g : Operand} {ps : Array Tmp} {assign body : Code} {l : Nat} {mark : List Deferred} {w₁ w₁' w₂ : World} {d : Deferred} {f : FuncId} {args : Array Value}
    (he : (Instr.enterLoop fn a.tmps ps assign body none).run P w = .ok (l, mark) w₁) (hres : (resolve a.eval (rangeCall g l) 0).run P w₁ = .ok d w₁') (hinv : (invoke d.target d.args).run P w₁' = .ok (.enter f args) w₂)
    (hcall : CallsIn Fence.wide n P f args w₂ (rangePost Fence.wide n P l Q { a with defers := mark ++ a.defers })) : WpAt P fn (.rangeFunc g ps assign body) Q a w := by
  intro b k cs hro hb
  rw [← hro, ← hb] at he
  have henter := stepR_rangeFunc (P := P) (b := b) (a := a) (k := k) (cs := cs) (w := w) he hres hinv
  obtain ⟨e, w₃, fr, hR, hsteps, hfn, hleave⟩ := hcall.2 (b.atR { a with defers := mark ++ a.defers } (.inRangeFunc l :: k) :: cs) (room_wide _)
  cases e with
  | outgrown =>
    obtain ⟨a₀, w₀, hq⟩ := hR
    exact ⟨.outgrown, a₀, w₀, hq, .inr (Outgrown.of_steps (.one henter) hsteps)⟩
  | returned v =>
    obtain ⟨jump, w₄, hend, hj⟩ := hR
    have s1 : StepsIn (Machine.fenced P Fence.wide) P (lone (b.atR a (.code (.rangeFunc g ps assign body) :: k)) cs w) (lone (b.atR { a with defers := mark ++ a.defers } ((jump.map Item.code).toList ++ k)) cs w₄) :=
      .head (fenced_wide P _) henter (StepsIn.trans hsteps (.head (fenced_wide P _) (step_leave_returned hleave) (by rw [finish_atR_inRangeFunc l v]; exact .one (fenced_wide P _) (stepR_endRangeFunc hend))))
    cases jump with
    | none => exact ⟨.normal, _, w₄, hj, s1⟩
    | some c =>
      obtain ⟨e', a'', w₅, hq, harr⟩ := hj b k cs hro trivial (room_wide _)
      exact ⟨e', a'', w₅, hq, .of_steps s1 harr⟩
  | panicked ch =>
    refine ⟨.panic ch, _, w₃, hR, .inRangeFunc l :: k, .head (fenced_wide P _) henter (StepsIn.trans hsteps (.one (fenced_wide P _) ?_))⟩
    rw [← Frame.raise_atR]
    exact step_leave_panicked hleave
end
section
variable {n : Nat} {P : Program} {α : Type}
/-- What a round's body must achieve, where it may leave the loop, or panic. -/
def ownPostP (B : Nat) (Kp : World → World → Prop) (I : List α → World → Prop) (Ix : Code → List α → World → Prop) (Ip : List α × List PanicEntry → World → Prop) (xs : List α) (W : World) : Exit → Act → World → Prop
  | .panic ch, a', W' => a'.defers = [] ∧ KeepsFrom B W W' ∧ Ip (xs, ch) W'
  | e, a', W' => ownPostG B Kp I Ix xs W e a' W'

theorem one_roundP {fn : FuncId} {fx : Func} (hfx : P.funcs[fn]? = some fx) {m B l D : Nat} (hl : B ≤ l) (hD : B ≤ D) (hne : l ≠ D) {tmps : Array Value} {ps : Array Tmp} {asg body : Code} {encs : α → Array Value} (hps : ∀ x, (encs x).size = ps.size) {Kp : World → World → Prop}
    (hKt : ∀ {X Y Z : World}, Kp X Y → Kp Y Z → Kp X Z) (hKb : ∀ (W : World) (k : Nat) (o o' : Obj), B ≤ k → W.heap[k]? = some o → o.isCells = false → o.isWalk = false → Kp W (W.putObj k o')) {H : Nat} (hH : l < H)
    {I : List α → World → Prop} {Ix : Code → List α → World → Prop} {Ip : List α × List PanicEntry → World → Prop} (hI : OwnFrom B I) (hIx : ∀ c, OwnFrom B (Ix c)) {Ax : α → Act → World → Prop} (hAx : ∀ x a', OwnFrom B (fun (_ : Unit) W => Ax x a' W)) {Ok : List α → α → Prop}
    (hassign : ∀ (pre : List α) (x : α) (W : World) (K : Act → World → Prop), I pre W → (∀ a' W', KeepsFrom B W W' → Kp W W' → I pre W' → Ax x a' W' → K a' W') →
      asg.wpIn (Fence.wide.inRound l) m P (Exit.then K (fun _ _ _ => False)) { tmps := (ps.zip (encs x)).foldl (fun t (p, v) => t.setIfInBounds p v) tmps, defers := [] } W)
    (hbody : ∀ (pre : List α) (x : α) (a' : Act) (W : World), I pre W → Ax x a' W → Ok pre x → body.wpIn (Fence.wide.inRound l) m P (ownPostP B Kp I Ix Ip (pre ++ [x]) W) a' W)
    (pre : List α) (x : α) (W : World) (hi : I pre W) (hb : Book l D (recOf fn tmps ps asg body D .ready none) W) (hN : Ok pre x) :
    YieldAt Fence.wide m P l (encs x) W fun e W' =>
      (e = .returned (.bool true) ∧ (I (pre ++ [x]) W' ∧ Book l D (recOf fn tmps ps asg body D .ready none) W') ∧ KeepsFrom H W W' ∧ Kp W W') ∨
      (e = .returned (.bool false) ∧ (∃ c, Ix c (pre ++ [x]) W' ∧ Book l D (recOf fn tmps ps asg body D .done (some c)) W') ∧ KeepsFrom H W W') ∨
      (∃ ch, e = .panicked ch ∧ (Ip (pre ++ [x], ch) W' ∧ Book l D (recOf fn tmps ps asg body D .busy none) W') ∧ KeepsFrom H W W') := by
  refine ⟨fn, _, asg, body, run_yield hb.1 (hps x), roundIn_of_wpP hfx (hassign pre x W _ hi ?_)⟩
  intro a' Wa k1 p1 hia hax
  have hba := hb.keep k1 hl hD
  refine ⟨_, run_beginRound hba.1 rfl, ?_⟩
  have hbb := hba.turn (r' := recOf fn tmps ps asg body D .busy none) hne
  have p2 := hKb Wa l _ (.loop (recOf fn tmps ps asg body D .busy none)) hl hba.1 rfl rfl
  have hib := hI.putObj (.loop (recOf fn tmps ps asg body D .busy none)) hia hl hba.1 rfl
  have hxb := (hAx x a').putObj (s := ()) (.loop (recOf fn tmps ps asg body D .busy none)) hax hl hba.1 rfl
  refine wpIn_mono (hbody pre x a' _ hib hxb hN) ?_
  have kk : ∀ W3, KeepsFrom B (Wa.putObj l (.loop (recOf fn tmps ps asg body D .busy none))) W3 → KeepsFrom H W W3 := fun W3 k3 => keepsFrom_trans' (keepsFrom_mono k1 (by omega)) (keepsFrom_trans' (keepsFrom_put _ _ hH) (keepsFrom_mono k3 (by omega)))
  have out : ∀ (c : Code) (W3 : World), KeepsFrom B (Wa.putObj l (.loop (recOf fn tmps ps asg body D .busy none))) W3 → Ix c (pre ++ [x]) W3 →
      ∃ v w', (Instr.endRound l (some c)).run P W3 = .ok v w' ∧ v = .bool false ∧ Ix c (pre ++ [x]) w' ∧ Book l D (recOf fn tmps ps asg body D .done (some c)) w' ∧ KeepsFrom H W w' := fun c W3 k3 hx => by
    have hb3 := hbb.keep k3 hl hD
    exact ⟨_, _, run_endRound (some c) hb3.1, rfl, (hIx c).putObj _ hx hl hb3.1 rfl, hb3.turn hne, keepsFrom_trans' (kk W3 k3) (keepsFrom_put _ _ hH)⟩
  rintro e a3 W3 hp
  cases e with
  | normal =>
    obtain ⟨k3, p3, hi3⟩ := hp
    have hb3 := hbb.keep k3 hl hD
    exact ⟨_, _, run_endRound none hb3.1, .inl ⟨rfl, ⟨hI.putObj _ hi3 hl hb3.1 rfl, hb3.turn hne⟩, keepsFrom_trans' (kk W3 k3) (keepsFrom_put _ _ hH), hKt p1 (hKt (hKt p2 p3) (hKb _ _ _ _ hl hb3.1 rfl rfl))⟩⟩
  | ret =>
    obtain ⟨v, w', h1, h2, h3, h4, h5⟩ := out .ret W3 hp.1 hp.2
    exact ⟨v, w', h1, .inr (.inl ⟨by rw [h2], ⟨_, h3, h4⟩, h5⟩)⟩
  | exit id =>
    obtain ⟨v, w', h1, h2, h3, h4, h5⟩ := out (.exit id) W3 hp.1 hp.2
    exact ⟨v, w', h1, .inr (.inl ⟨by rw [h2], ⟨_, h3, h4⟩, h5⟩)⟩
  | goto t =>
    obtain ⟨v, w', h1, h2, h3, h4, h5⟩ := out (.goto t) W3 hp.1 hp.2
    exact ⟨v, w', h1, .inr (.inl ⟨by rw [h2], ⟨_, h3, h4⟩, h5⟩)⟩
  | panic ch =>
    obtain ⟨hd, k3, hp3⟩ := hp
    exact ⟨hd, .inr (.inr ⟨ch, rfl, ⟨hp3, hbb.keep k3 hl hD⟩, kk W3 k3⟩)⟩
  | outgrown => exact hp.elim

/-- The statement, over an iterator that tells, whose rounds may leave, or panic. -/
theorem range_tellsP2 {fn : FuncId} {fx : Func} (hfx : P.funcs[fn]? = some fx) {g : Operand} {ps : Array Tmp} {asg body : Code} {Q : Exit → Act → World → Prop} {a : Act} {w : World}
    {gf : Nat} {lb : Array Value} (hg : a.eval g = .func (.func gf) #[] lb) (eg : ∀ args w, (callFunc gf args).run P w = .ok (.enter gf args) w)
    {encs : α → Array Value} {Kp : World → World → Prop} {S : List α → Prop} {Ok : List α → α → Prop} {w0 : World} (hseq : TellsX Fence.wide n P gf lb encs Kp S Ok w0)
    (hKt : ∀ {X Y Z : World}, Kp X Y → Kp Y Z → Kp X Z) (hKb : ∀ (W : World) (k : Nat) (o o' : Obj), w.heap.size ≤ k → W.heap[k]? = some o → o.isCells = false → o.isWalk = false → Kp W (W.putObj k o')) (hb0 : Below w0.heap.size w0 w) (hps : ∀ x, (encs x).size = ps.size)
    (I : List α → World → Prop) (Ix : Code → List α → World → Prop) (Ip : List α × List PanicEntry → World → Prop) (hI : OwnFrom w.heap.size I) (hIx : ∀ c, OwnFrom w.heap.size (Ix c)) (hIp : OwnFrom w.heap.size Ip) (h0 : I [] w) (Ax : α → Act → World → Prop) (hAx : ∀ x a', OwnFrom w.heap.size (fun (_ : Unit) W => Ax x a' W))
    (hassign : ∀ (l : Nat) (pre : List α) (x : α) (W : World) (K : Act → World → Prop), I pre W → (∀ a' W', KeepsFrom w.heap.size W W' → Kp W W' → I pre W' → Ax x a' W' → K a' W') →
      asg.wpIn (Fence.wide.inRound l) (n - 1) P (Exit.then K (fun _ _ _ => False)) { tmps := (ps.zip (encs x)).foldl (fun t (p, v) => t.setIfInBounds p v) a.tmps, defers := [] } W)
    (hbody : ∀ (l : Nat) (pre : List α) (x : α) (a' : Act) (W : World), I pre W → Ax x a' W → Ok pre x → body.wpIn (Fence.wide.inRound l) (n - 1) P (ownPostP w.heap.size Kp I Ix Ip (pre ++ [x]) W) a' W)
    (hdone : ∀ (D : Nat) (xs : List α) (W : World), w.heap.size ≤ D → S xs → I xs W → W.heap[D]? = some (.deferred (some [])) → Q .normal { a with defers := { target := .collected D, args := #[] } :: a.defers } W)
    (hstop : ∀ (D : Nat) (c : Code) (pre : List α) (W : World), w.heap.size ≤ D → Ix c pre W → W.heap[D]? = some (.deferred (some [])) → c.wpIn Fence.wide n P Q { a with defers := { target := .collected D, args := #[] } :: a.defers } W)
    (hpan : ∀ (D : Nat) (ch : List PanicEntry) (pre : List α) (W : World), w.heap.size ≤ D → Ip (pre, ch) W → W.heap[D]? = some (.deferred (some [])) → Q (.panic ch) { a with defers := { target := .collected D, args := #[] } :: a.defers } W) :
    WpAt P fn (Code.rangeFunc g ps asg body) Q a w := by
  have hne : w.heap.size + 1 ≠ w.heap.size := by omega
  have hbk : Book (w.heap.size + 1) w.heap.size (recOf fn a.tmps ps asg body w.heap.size .ready none) ((w.alloc (.deferred (some []))).alloc (.loop (recOf fn a.tmps ps asg body w.heap.size .ready none))) := by
    constructor
    · have h := World.alloc_heap_new (w.alloc (.deferred (some []))) (.loop (recOf fn a.tmps ps asg body w.heap.size .ready none))
      rwa [World.size_alloc] at h
    · exact (Below.heap_alloc _ _ _ (by simp)).trans (World.alloc_heap_new w _)
  have hi1 : I [] ((w.alloc (.deferred (some []))).alloc (.loop (recOf fn a.tmps ps asg body w.heap.size .ready none))) := hI.alloc _ (hI.alloc _ h0)
  have hb1 : Below w0.heap.size w0 ((w.alloc (.deferred (some []))).alloc (.loop (recOf fn a.tmps ps asg body w.heap.size .ready none))) :=
    hb0.trans ((((Below.refl _ w).alloc (Nat.le_refl _) _).alloc (by simp) _).mono hb0.size)
  have hent := run_enterLoop_outer (P := P) (w := w) fn a.tmps ps asg body
  have hsz : ((w.alloc (.deferred (some []))).alloc (.loop (recOf fn a.tmps ps asg body w.heap.size .ready none))).heap.size = w.heap.size + 2 := by simp
  refine wpAt_rangeFunc (n := n) (w₁ := ((w.alloc (.deferred (some []))).alloc (.loop (recOf fn a.tmps ps asg body w.heap.size .ready none)))) (w₁' := ((w.alloc (.deferred (some []))).alloc (.loop (recOf fn a.tmps ps asg body w.heap.size .ready none)))) (w₂ := ((w.alloc (.deferred (some []))).alloc (.loop (recOf fn a.tmps ps asg body w.heap.size .ready none)))) (d := { target := .fn (.func gf) lb, args := #[.func (.yield (w.heap.size + 1)) #[] #[]] }) (f := gf) (args := #[.func (.yield (w.heap.size + 1)) #[] #[]] ++ lb) hent (by simp only [resolve, hg]; simp [go_sem]) (by simp [invoke, go_sem, eg]) ?_
  generalize ((w.alloc (.deferred (some []))).alloc (.loop (recOf fn a.tmps ps asg body w.heap.size .ready none))) = W1 at *
  have hlW : w.heap.size + 1 < W1.heap.size := by omega
  have hDW : w.heap.size < W1.heap.size := by omega
  refine (hseq (w.heap.size + 1) (fun pre W => I pre W ∧ Book (w.heap.size + 1) w.heap.size (recOf fn a.tmps ps asg body w.heap.size .ready none) W)
    (fun pre W => ∃ c, Ix c pre W ∧ Book (w.heap.size + 1) w.heap.size (recOf fn a.tmps ps asg body w.heap.size .done (some c)) W)
    (fun s W => Ip s W ∧ Book (w.heap.size + 1) w.heap.size (recOf fn a.tmps ps asg body w.heap.size .busy none) W) W1 hb1
    (OwnFrom.and (ownFrom_mono hI (by omega)) (ownFrom_book hlW hDW))
    (ownFrom_ex fun c => OwnFrom.and (ownFrom_mono (hIx c) (by omega)) (ownFrom_book hlW hDW))
    (OwnFrom.and (ownFrom_mono hIp (by omega)) (ownFrom_book hlW hDW))
    (fun pre x W hJ hN => one_roundP (Kp := Kp) (P := P) (m := n - 1) (B := w.heap.size) (l := w.heap.size + 1) (D := w.heap.size) (tmps := a.tmps) (ps := ps) (asg := asg) (body := body) (I := I) (Ix := Ix) (Ip := Ip) (Ax := Ax) (Ok := Ok) hfx (Nat.le_succ _) (Nat.le_refl _) hne hps hKt hKb (H := W1.heap.size) (by omega) hI hIx hAx (hassign (w.heap.size + 1)) (hbody (w.heap.size + 1)) pre x W hJ.1 hJ.2 hN) ⟨hi1, hbk⟩).mono ?_
  rintro e W2 (⟨⟨v, rfl⟩, (⟨xs, hS, hi, hb⟩ | ⟨pre, c, hi, hb⟩)⟩ | ⟨pre, ch, rfl, hi, hb⟩)
  · exact ⟨none, _, run_endLoop hb.1 (by simp [recOf]), hdone _ xs _ (Nat.le_refl _) hS (hI.putObj _ hi (by omega) hb.1 rfl) ((World.putObj_heap_other (by omega)).trans hb.2)⟩
  · exact ⟨some c, _, run_endLoop hb.1 (by simp [recOf]), hstop _ c pre _ (Nat.le_refl _) ((hIx c).putObj _ hi (by omega) hb.1 rfl) ((World.putObj_heap_other (by omega)).trans hb.2)⟩
  · exact hpan _ ch pre _ (Nat.le_refl _) hi hb.2

end
end Go.Proofs

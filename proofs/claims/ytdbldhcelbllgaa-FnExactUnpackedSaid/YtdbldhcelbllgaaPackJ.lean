/-
  Jumps to labels, one law for them all; strings.Join at a dot.
-/
import Derived.Test.YtdbldhcelbllgaaPackL
import Derived.Test.YtdbldhcelbllgaaShelf
import Derived.ScopeJumps
import Derived.WalkMore
namespace Go.Proofs.Ytdbldhcelbllgaa.Nm
open Go.ChangeShapes Go.WideShapes Go.ChangeAt Go.RowKit Go.Shelf
/-- From label l of the scope c on, Q holds in the end. -/
def AtL (P : Program) (c : Code) (Q : Exit → Act → World → Prop) (l : Nat) (a : Act) (w : World) : Prop :=
  ∀ (b : Frame) (k : List Item) (cs : List Frame), ∃ rest, findLabel c l = some rest ∧ ∃ e a' w', Q e a' w' ∧ Arrives P (lone (b.at a (.code rest :: .inScope c :: k)) cs w) b k cs e a' w'
/-- As Q; by a goto to a label: J at that label. -/
def jumps (J : Nat → Act → World → Prop) (Q : Exit → Act → World → Prop) : Exit → Act → World → Prop
  | .goto l, a, w => J l a w
  | e, a, w => Q e a w
section
variable {P : Program} {a : Act} {w : World} {Q : Exit → Act → World → Prop} {J : Nat → Act → World → Prop}
theorem jumps_normal : jumps J Q .normal a w = Q .normal a w := rfl
theorem jumps_exit (id : Nat) : jumps J Q (.exit id) a w = Q (.exit id) a w := rfl
theorem jumps_ret : jumps J Q .ret a w = Q .ret a w := rfl
theorem jumps_goto (l : Nat) : jumps J Q (.goto l) a w = J l a w := rfl
theorem wp_scope_at {c : Code} (first : c.wp P (jumps (AtL P c Q) Q) a w) : (Code.scope c).wp P Q a w := by
  intro b k cs
  obtain ⟨e, a₁, w₁, hq, harr⟩ := first b (.inScope c :: k) cs
  cases e with
  | normal => exact ⟨.normal, a₁, w₁, hq, .head step_scope (Steps.trans harr (.one step_inScope))⟩
  | exit id => exact ⟨.exit id, a₁, w₁, hq, fun k' hk => .head step_scope (harr k' (by simp [exitTo, hk]))⟩
  | goto l =>
    obtain ⟨rest, hf, e₂, a₂, w₂, hq₂, harr₂⟩ := hq b k cs
    have hg : gotoIn l (.inScope c :: k) = some (.code rest :: .inScope c :: k) := by simp [gotoIn, hf]
    exact ⟨e₂, a₂, w₂, hq₂, .of_steps (.head step_scope (harr _ hg)) harr₂⟩
  | ret => exact ⟨_, a₁, w₁, hq, .of_steps (.one step_scope) harr⟩
  | panic ch => exact ⟨_, a₁, w₁, hq, .of_steps (.one step_scope) harr⟩
  | outgrown => exact ⟨_, a₁, w₁, hq, .of_steps (.one step_scope) harr⟩
theorem atL_of {c rest : Code} {l : Nat} (hf : findLabel c l = some rest) (h : rest.wp P (jumps (AtL P c Q) Q) a w) : AtL P c Q l a w := by
  intro b k cs
  refine ⟨rest, hf, ?_⟩
  obtain ⟨e, a₁, w₁, hq, harr⟩ := h b (.inScope c :: k) cs
  cases e with
  | normal => exact ⟨.normal, a₁, w₁, hq, Steps.trans harr (.one step_inScope)⟩
  | exit id => exact ⟨.exit id, a₁, w₁, hq, fun k' hk => harr k' (by simp [exitTo, hk])⟩
  | goto l' =>
    obtain ⟨rest', hf', e₂, a₂, w₂, hq₂, harr₂⟩ := hq b k cs
    have hg : gotoIn l' (.inScope c :: k) = some (.code rest' :: .inScope c :: k) := by simp [gotoIn, hf']
    exact ⟨e₂, a₂, w₂, hq₂, .of_steps (harr _ hg) harr₂⟩
  | ret => exact ⟨_, a₁, w₁, hq, harr⟩
  | panic ch => exact ⟨_, a₁, w₁, hq, harr⟩
  | outgrown => exact ⟨_, a₁, w₁, hq, harr⟩
/-- A scope: whatever J says of its labels, as long as it says no more than what holds from there on. -/
theorem wp_scope_any {c : Code} (h : ∀ J : Nat → Act → World → Prop, (∀ l rest a w, findLabel c l = some rest → rest.wp P (jumps J Q) a w → J l a w) → c.wp P (jumps J Q) a w) : (Code.scope c).wp P Q a w :=
  wp_scope_at (h (AtL P c Q) (fun _ _ _ _ hf hr => atL_of hf hr))
end
theorem bExtra : Builder.Extra Try.prog Try.lays156_ren where
  sizeBuilder := by kernel_rfl
  liesBuilder := by kernel_rfl
  t5 := Try.underlying5
  a5 := Try.isAgg5
  z5 := Try.sizeOf5
  v5 := Try.zeroValue5
  infoByte := by kernel_rfl
  cellsByte := by kernel_rfl
  sizeByte := by kernel_rfl
  neB5 := by decide
theorem lib_join : ∀ ls : List Bytes, Go.Lib.join ls [46] = join ls
  | [] => rfl
  | [l] => by rw [Go.Lib.join_one]; rfl
  | l :: m :: r => by
    have ih := lib_join (m :: r)
    rw [Go.Lib.join_cons] at ih ⊢
    show l ++ Go.Lib.joinTail [46] (m :: r) = l ++ 46 :: join (m :: r)
    rw [← ih]
    rfl
theorem join_small : ∀ ls : List Bytes, (∀ l ∈ ls, l.length ≤ 12) → (join ls).length ≤ 13 * ls.length
  | [], _ => by simp [join]
  | [l], h => by have := h l (by simp); show l.length ≤ _; simp; omega
  | l :: m :: r, h => by
    have := h l (by simp)
    have ih := join_small (m :: r) (fun x hx => h x (by simp [hx]))
    rw [join_cons_length l (m :: r) (by simp)]
    simp only [List.length_cons] at ih ⊢
    omega
set_option maxRecDepth 100000 in
theorem join_any (a : Option Addr) (cap : Nat) (L : List ByteArray) (w : World) (h : Rd w a L) (hc : L.length ≤ cap) (h6 : L.length ≤ 6) (h12 : ∀ l ∈ bL L, l.length ≤ 12) :
    Calls Try.prog 50 #[.slice a L.length cap, .string dotS] w fun e w' => e = .returned (.string (B (join (bL L)))) ∧ Below w.heap.size w w' := by
  cases L with
  | nil =>
    refine (Any.strings_Join_none Try.lays156 bExtra a cap dotS w).mono ?_
    rintro e w' ⟨rfl, rfl⟩
    exact ⟨rfl, Below.refl _ _⟩
  | cons s t =>
    obtain ⟨b, off, rfl, c0⟩ := h.cell 0 (by simp)
    have hj := join_small (bL (s :: t)) h12
    rw [bL_length] at hj
    have e46 : dotS.data.toList = [46] := rfl
    have hb : Go.Lib.join ((s :: t).map (·.data.toList)) dotS.data.toList = join (bL (s :: t)) := by rw [e46]; exact lib_join _
    refine (Any.strings_Join Try.lays156 bExtra b off cap (s :: t) dotS w (fun j x hx => ?_) (cell_block c0) (by omega) hc (by rw [hb]; omega)).mono ?_
    · obtain ⟨hj', e⟩ := List.getElem?_eq_some_iff.1 hx
      obtain ⟨b', off', e', c'⟩ := h.cell j hj'
      cases e'
      rw [c', sat_at hj', e]
    · rintro e w' ⟨rfl, hB⟩
      rw [hb]
      exact ⟨rfl, hB⟩
end Go.Proofs.Ytdbldhcelbllgaa.Nm

/-
  Hash: what the program's hash state, hasher and Hash answer and turn, and the specification's Hash.
  The specification's numerals: l1Int of a number from 0 on is its decimal numeral.
  What the drawing functions of chapter 3 answer, whatever the bytes: a text of at most 6 bytes; they write into their own cursor alone.
  DrawSigned and DrawChallenge: some secret, some Points, some short text; they turn nothing that was.
  Texts: the numerals of a Point with a blank behind each; what the specification hashes of them.
-/
import Derived.Test.YtciikondckoboaaGreatDoorSignP
import Derived.Test.YtciikondckoboaaGreatDoorField
import Derived.Test.YtciikondckoboaaGreatDoorMem
import Derived.Deep.RegionWith
import Derived.Deep.Cut
import Derived.Test.YtciikondckoboaaGreatDoorDoorMet
import Derived.WalkLawsBesides
import Derived.Test.YtciikondckoboaaGreatDoorDraw
import Derived.OwnWalk
import Derived.Laws.AppendOwn
import Derived.Laws.IdiomStrings
import Derived.Laws.BytesArg
import Derived.Lib.SmallJoins
import Derived.Test.YtciikondckoboaaGreatDoorCurveE
import Derived.Lib.ItoaLen
namespace Go.Proofs.YtciikondckoboaaGreatDoor.Sg
open Go.ChangeShapes Go.WideShapes Go.ChangeAt Go.RowKit
theorem hidIt {p : Prop} (h : p) : Hid p := h
/-- Block b's first cell holds the number h, and may be written. -/
structure One (w : World) (b h : Nat) : Prop where
  lt : b < w.heap.size
  c0 : w.cell? ⟨b, 0, none⟩ = some (.int .i64 h)
  f0 : w.frozen? ⟨b, 0, none⟩ = false
theorem One.kept {B : Nat} {w w' : World} {b h : Nat} (o : One w b h) (k : Below B w w') (hb : b < B) : One w' b h :=
  ⟨Nat.lt_of_lt_of_le o.lt k.size, by rw [k.cell (by simpa using hb)]; exact o.c0, by rw [k.frozen (by simpa using hb)]; exact o.f0⟩
theorem One.put {w : World} {b h g : Nat} (o : One w b h) : One (w.setCell ⟨b, 0, none⟩ (.int .i64 g)) b g :=
  ⟨by simpa [World.setCell] using o.lt, World.cell?_setCell_same' _ _ _ (by rw [o.c0]; rfl), by simpa using o.f0⟩
theorem One.newAt {w : World} {h k : Nat} {T : TypeId} (e : w.heap.size = k) : One (w.alloc (.cells #[.int .i64 h] T)) k h := by
  subst e; exact ⟨by simp, by simp, by simp⟩
theorem One.drew {w : World} {b h : Nat} (o : One w b h) : One w.drew b h := ⟨o.lt, o.c0, o.f0⟩
set_option maxHeartbeats 1000000 in
theorem take_any (b h c : Nat) (w : World) (o : One w b h) (hh : h < 2147483647) (hc : c < 256) :
    Calls Tryz.prog 72 #[.pointer (some ⟨b, 0, none⟩), .int .u8 c] w fun e w' => e = .returned (.tuple #[]) ∧ w' = w.setCell ⟨b, 0, none⟩ (.int .i64 (hstep h c)) := by
  obtain ⟨lt, c0, f0⟩ := o
  have h1 : (0 : Int) ≤ h := by omega
  have h2 : (h : Int) < 2147483647 := by omega
  have h3 : (0 : Int) ≤ c := by omega
  have h4 : (c : Int) < 256 := by omega
  go_enter Tryz.func72, Tryz.ntmps72
  go_wp2
  refine bodyPost_end (v := .tuple #[]) (by simp [results, Tryz.results72, go_sem]) rfl ⟨rfl, ?_⟩
  have e : (((h : Int) * 1000003 + (c : Int) + 1) % 2147483647) = (hstep h c : Int) := by unfold hstep; omega
  rw [e]
set_option maxHeartbeats 2000000 in
theorem ended_any (h : Nat) (w : World) (hh : h < 2147483647) :
    Calls Tryz.prog 53 #[.agg #[.int .i64 h]] w fun e w' => e = .returned (.int .i64 (hend h)) ∧ Below w.heap.size w w' := by
  go_enter Tryz.func53, Tryz.ntmps53
  go_wp2_with (fail)
  go_loopw [3] (fun y wx => ∃ i : Nat, y = .int .i64 i ∧ i ≤ 5 ∧ One wx w.heap.size (hrun h (List.replicate i 0)) ∧ Below w.heap.size w wx) (fun y _ => (5 - intOf y).toNat)
  case atStart => exact ⟨0, rfl, by omega, One.newAt rfl, (Below.refl _ _).alloc (Nat.le_refl _) _⟩
  case round =>
    obtain ⟨i, rfl, hi, hO, hB⟩ := hrel
    have HO := hidIt hO
    have HB := hidIt hB
    clear hB
    by_cases h5 : i < 5
    · have h5' : (i : Int) < 5 := by omega
      clear hO
      go_wp2_with (fail)
      refine (take_any w.heap.size _ 0 _ HO.out (hrun_lt _ _ hh) (by decide)).mono ?_
      rintro e w1 ⟨rfl, rfl⟩
      go_wp2_with (fail)
      refine ⟨⟨i + 1, by simp, by omega, ?_, HB.out.setCell (by simp) _⟩, by simp [intOf]; omega⟩
      have := HO.out.put (g := hstep (hrun h (List.replicate i 0)) 0)
      rw [List.replicate_succ', hrun_append, hrun_cons, hrun_nil]
      exact this
    · have h5' : ¬ (i : Int) < 5 := by omega
      have e5 : i = 5 := by omega
      subst e5
      obtain ⟨lt, c0, f0⟩ := hO
      go_wp2_with (fail)
      go_ret
      exact ⟨rfl, HB.out⟩
set_option maxHeartbeats 1000000 in
theorem newHasher_any (w : World) : Calls Tryz.prog 50 #[] w fun e w' => e = .returned (.agg #[.int .i64 17]) ∧ Below w.heap.size w w' := by
  go_enter Tryz.func50, Tryz.ntmps50
  go_wp2
  refine bodyPost_ret (v := .agg #[.int .i64 17]) (by simp [results, Tryz.results50, go_sem]) rfl ⟨rfl, ?_⟩
  exact (Below.refl _ _).alloc (Nat.le_refl _) _
set_option maxHeartbeats 2000000 in
theorem text_any (b h : Nat) (s : ByteArray) (w : World) (o : One w b h) (hh : h < 2147483647) (hs : s.size ≤ 9223372036854775807) :
    Calls Tryz.prog 51 #[.pointer (some ⟨b, 0, none⟩), .string s] w fun e w' => e = .returned (.tuple #[]) ∧ One w' b (hrun h (nums s)) ∧ Only b w w' := by
  have HO := hidIt o
  clear o
  go_enter Tryz.func51, Tryz.ntmps51
  go_wp2_with (fail)
  go_loopw [7] (fun y wx => ∃ i : Nat, y = .int .i64 i ∧ i ≤ s.size ∧ One wx b (hrun h ((nums s).take i)) ∧ Only b w wx) (fun y _ => (s.size - intOf y).toNat)
  case atStart => exact ⟨0, rfl, by omega, HO.out, Only.refl _ _⟩
  case round =>
    obtain ⟨i, rfl, hi, hO, hB⟩ := hrel
    have HP := hidIt hO
    have HB := hidIt hB
    clear hB
    by_cases h5 : i < s.size
    · have h5' : (i : Int) < s.size := by omega
      have h6 : (0 : Int) ≤ i := by omega
      have h7 : (i : Int) + 1 ≤ 9223372036854775807 := by omega
      clear hO
      go_wp2_with (fail)
      go_region_with (go_at_call 72; refine (take_any b _ _ _ HP.out.drew (hrun_lt _ _ hh) (UInt8.toNat_lt _)).mono ?_; rintro e w1 ⟨rfl, rfl⟩)
      all_goals
        go_wp2_with (fail)
        refine ⟨⟨i + 1, by simp, by omega, ?_, (HB.out.setCell 0 _).drew⟩, by simp [intOf]; omega⟩
        rw [hrun_take s h i h5]
        exact HP.out.put.drew
    · have h5' : ¬ (i : Int) < s.size := by omega
      have e5 : i = s.size := by omega
      subst e5
      clear hO
      go_wp2_with (fail)
      refine bodyPost_end (v := .tuple #[]) (by simp [results, Tryz.results51, go_sem]) rfl ⟨rfl, ?_, HB.out⟩
      have := HP.out
      rw [nums_take_all] at this
      exact this
set_option maxHeartbeats 2000000 in
theorem spec_Hash (s : ByteArray) (w : World) (hs : s.size ≤ 4611686018427387904) :
    Calls Tryz.prog 57 #[.string s] w fun e w' => e = .returned (.int .i64 (hashN (nums s))) ∧ w' = w := by
  go_enter Tryz.func57, Tryz.ntmps57
  go_wp2_with (fail)
  go_loopw [3, 4] (fun y z wx => ∃ i h : Nat, y = .int .i64 h ∧ z = .int .i64 i ∧ i ≤ s.size + 5 ∧ Hid (h = hrun 17 ((pad s).take i)) ∧ h < 2147483647 ∧ wx = w) (fun _ z _ => (s.size + 5 - intOf z).toNat)
  case atStart => exact ⟨0, 17, rfl, rfl, by omega, rfl, by omega, rfl⟩
  case round =>
    obtain ⟨i, h, rfl, rfl, hi, hh, hl, rfl⟩ := hrel
    have l1 : (0 : Int) ≤ h := by omega
    have l2 : (h : Int) < 2147483647 := by omega
    have l3 : (0 : Int) ≤ i := by omega
    have l4 : (i : Int) + 1 ≤ 9223372036854775807 := by omega
    have l5 : (s.size : Int) + 5 ≤ 9223372036854775807 := by omega
    by_cases h5 : i < s.size
    · have h6 : (i : Int) < s.size := by omega
      have h7 : (i : Int) < s.size + 5 := by omega
      have l6 : ((s[i]'h5).toNat : Int) < 256 := by have := UInt8.toNat_lt (s[i]'h5); omega
      have l7 : (0 : Int) ≤ ((s[i]'h5).toNat : Int) := by omega
      go_wp2_with (fail)
      refine ⟨⟨i + 1, hstep h (s[i]'h5).toNat, ?_, by simp, by omega, ?_, hstep_lt _ _, trivial⟩, by simp [intOf]; omega⟩
      · refine congrArg (Value.int IntKind.i64) ?_; unfold hstep; omega
      · show _ = _
        rw [hrun_pad_lt s 17 i h5, ← hh.out]
    · have h6 : ¬ (i : Int) < s.size := by omega
      by_cases h7 : i < s.size + 5
      · have h8 : (i : Int) < s.size + 5 := by omega
        go_wp2_with (fail)
        refine ⟨⟨i + 1, hstep h 0, ?_, by simp, by omega, ?_, hstep_lt _ _, trivial⟩, by simp [intOf]; omega⟩
        · refine congrArg (Value.int IntKind.i64) ?_; unfold hstep; omega
        · show _ = _
          rw [hrun_pad_ge s 17 i (by omega) h7, ← hh.out]
      · have h8 : ¬ (i : Int) < s.size + 5 := by omega
        have e5 : i = s.size + 5 := by omega
        go_wp2_with (fail)
        go_ret
        refine ⟨?_, rfl⟩
        rw [hh.out, e5, hrun_pad]
        rfl
end Go.Proofs.YtciikondckoboaaGreatDoor.Sg
namespace Go.Proofs.YtciikondckoboaaGreatDoor.Sg
open Go.ChangeShapes Go.WideShapes Go.ChangeAt Go.RowKit
/-- What the loop keeps: n is the number, m what is left of it, l the digits so far. -/
def Lr (n m : Nat) (l : List UInt8) : Prop := (l = [] ∧ m = n) ∨ (l ≠ [] ∧ m = 0 ∧ l = Lib.decDigits n) ∨ (l ≠ [] ∧ m ≠ 0 ∧ Lib.decDigits m ++ l = Lib.decDigits n)
theorem Lr.step {n m : Nat} {l : List UInt8} (h : Lr n m l) (hg : l = [] ∨ m ≠ 0) : Lr n (m / 10) (UInt8.ofNat (48 + m % 10) :: l) := by
  have key : Lib.decDigits m ++ l = Lib.decDigits n := by
    rcases h with ⟨h1, h2⟩ | ⟨h1, h2, _⟩ | ⟨_, _, h3⟩
    · rw [h1, h2, List.append_nil]
    · rcases hg with h4 | h4
      · exact absurd h4 h1
      · exact absurd h2 h4
    · exact h3
  by_cases hm : m < 10
  · refine .inr (.inl ⟨by simp, by omega, ?_⟩)
    rw [← key, Lib.decDigits_one hm, Nat.mod_eq_of_lt hm]
    rfl
  · refine .inr (.inr ⟨by simp, by omega, ?_⟩)
    rw [← key, Lib.decDigits.eq_def m, dif_neg hm, List.append_assoc]
    rfl
theorem Lr.done {n m : Nat} {l : List UInt8} (h : Lr n m l) (h1 : l ≠ []) (h2 : m = 0) : l = Lib.decDigits n := by
  rcases h with ⟨h3, _⟩ | ⟨_, _, h3⟩ | ⟨_, h3, _⟩
  · exact absurd h3 h1
  · exact h3
  · exact absurd h2 h3
/-- What shrinks: what is left, and whether there is a digit. -/
def mz : Value → Value → Nat
  | y, .string s => if s.data.toList = [] then 2 * (intOf y).toNat + 1 else 2 * (intOf y).toNat
  | _, _ => 0
theorem mz_nil (m : Nat) (s : ByteArray) (h : s.data.toList = []) : mz (.int .i64 m) (.string s) = 2 * m + 1 := by simp only [mz, h, intOf, if_true]; omega
theorem mz_cons (m : Nat) (s : ByteArray) (h : ¬ s.data.toList = []) : mz (.int .i64 m) (.string s) = 2 * m := by simp only [mz, h, intOf, if_false]; omega
/-- One byte in a new block, as a text. -/
theorem cv1 (x : Nat) (hx : x < 256) (wr : World) : (convert 22 9 (.slice (some ⟨wr.heap.size, 0, none⟩) 1 1)).run Tryz.prog (wr.alloc (.cells #[.int .u8 x] 5)) = .ok (.string ⟨#[UInt8.ofNat x]⟩) (wr.alloc (.cells #[.int .u8 x] 5)) := by
  refine run_convert_bytes_back _ _ _ 5 ⟨wr.heap.size, 0, none⟩ 1 [UInt8.ofNat x] Tryz.underlying22 Tryz.underlying5 Tryz.underlying9 (fun j hj => ?_)
  have hj0 : j = 0 := by simp at hj; omega
  subst hj0
  have e : (UInt8.ofNat x).toNat = x := by simp; omega
  simp [Addr.add, Nat.mod_eq_of_lt hx]
set_option maxRecDepth 100000 in
set_option maxHeartbeats 4000000 in
theorem l1Int_any (n : Nat) (w : World) (hn : n ≤ 1099511627776) :
    Calls Tryz.prog 37 #[.int .i64 n] w fun e w' => e = .returned (.string ⟨(Lib.itoa n).toArray⟩) ∧ Below w.heap.size w w' := by
  have h0 : ¬ (n : Int) < 0 := by omega
  go_enter Tryz.func37, Tryz.ntmps37
  go_wp2_with (fail)
  go_loopw [0, 3] (fun y z wx => ∃ (m : Nat) (s : ByteArray), y = .int .i64 m ∧ z = .string s ∧ m ≤ 1099511627776 ∧ s.size + m ≤ n + 1 ∧ Lr n m s.data.toList ∧ Below w.heap.size w wx) (fun y z _ => mz y z)
  case atStart => exact ⟨n, _, rfl, rfl, hn, by simp [ByteArray.size], .inl ⟨rfl, rfl⟩, Below.refl _ _⟩
  case round =>
    obtain ⟨m, s, rfl, rfl, hm, hsm, hL, hB⟩ := hrel
    have HL := hidIt hL
    have HB := hidIt hB
    clear hL hB
    by_cases hg : s.data.toList = [] ∨ m ≠ 0
    · have l1 : (0 : Int) ≤ m := by omega
      have l2 : (m : Int) ≤ 1099511627776 := by omega
      have l3 : ¬ (m : Int) % 10 < 0 := by omega
      have hq1 : (⟨#[48 + UInt8.ofNat (m % 10)]⟩ : ByteArray).size = 1 := rfl
      have hq2 : ¬ 9223372036854775807 < 1 + s.size := by omega
      have hq3 : Hid (1 + s.size + m / 10 ≤ n + 1) := by
        refine hidIt ?_
        rcases hg with h1 | h1
        · have h2 : s.size = 0 := by rw [show s.size = s.data.toList.length from (Array.length_toList).symm, h1]; rfl
          omega
        · omega
      have hcv := cv1 (48 + m % 10) (by omega) wr
      have ec : ((48 + m % 10 : Nat) : Int) = 48 + (m : Int) % 10 := by omega
      rw [ec] at hcv
      clear ec
      have hstep := hidIt (HL.out.step hg)
      have hend : Hid (mz (.int .i64 (m / 10 : Nat)) (.string (⟨#[UInt8.ofNat (48 + m % 10)]⟩ ++ s)) < mz (.int .i64 m) (.string s)) := by
        refine hidIt ?_
        rw [mz_cons _ _ (by simp)]
        by_cases hs : s.data.toList = []
        · rw [mz_nil _ _ hs]; omega
        · rw [mz_cons _ _ hs]
          have : m ≠ 0 := hg.resolve_left hs
          omega
      by_cases hs : s.data.toList = []
      · have hs' : s.toList.isEmpty = true := by rw [ByteArray.toList_eq, hs]; rfl
        clear hg hs
        go_wp2_with (fail)
        refine ⟨⟨m / 10, _, by simp, rfl, by omega, by rw [ByteArray.size_append, hq1]; exact hq3.out, ?_, HB.out.alloc (HB.out.size) _⟩, ?_⟩
        · have := hstep.out
          simpa using this
        · have := hend.out
          simpa using this
      · have hs' : s.toList.isEmpty = false := by rw [ByteArray.toList_eq]; simpa using hs
        have hm0 : ((m : Int) != 0) = true := by have : m ≠ 0 := hg.resolve_left hs; simp; omega
        clear hg hs
        go_wp2_with (fail)
        refine ⟨⟨m / 10, _, by simp, rfl, by omega, by rw [ByteArray.size_append, hq1]; exact hq3.out, ?_, HB.out.alloc (HB.out.size) _⟩, ?_⟩
        · have := hstep.out
          simpa using this
        · have := hend.out
          simpa using this
    · have hs : ¬ s.data.toList = [] := fun h => hg (.inl h)
      have hz : m = 0 := Decidable.byContradiction fun h => hg (.inr h)
      have hs' : s.toList.isEmpty = false := by rw [ByteArray.toList_eq]; simpa using hs
      have hd := hidIt (HL.out.done hs hz)
      clear hg hs
      subst hz
      go_wp2_with (fail)
      go_ret
      refine ⟨?_, HB.out⟩
      rw [Lib.itoa_nonneg, ← hd.out]
      rfl
end Go.Proofs.YtciikondckoboaaGreatDoor.Sg
namespace Go.Proofs.YtciikondckoboaaGreatDoor.Sg
open Go.ChangeShapes Go.WideShapes Go.ChangeAt Go.RowKit
open Dr
/-- The slice v owns the bytes l in a row of the call's own. -/
def Bs (w : World) (base : Nat) (v : Value) (l : List UInt8) : Prop := w.ownsRow base 5 1 v l.length (l.map fun b => Value.int .u8 (b.toNat : Int))
theorem Bs.far {w : World} {base c : Nat} {v : Value} {l : List UInt8} (h : Bs w base v l) (hc : c < base) : v.ownBlock = none ∨ v.ownBlock ≠ some c := by
  cases hv : v.ownBlock with
  | none => exact .inl rfl
  | some k => exact .inr (fun e => by have := (World.ownsRow.lt h k hv).1; cases e; omega)
theorem Bs.only {w w' : World} {base c : Nat} {v : Value} {l : List UInt8} (h : Bs w base v l) (k : Only c w w') (hc : c < base) : Bs w' base v l :=
  World.ownsRow.kept h ⟨k.os, k.tape, k.output, k.size, fun i hi hne => k.block i hi (fun e => hne (by rw [e]))⟩ (h.far hc)
theorem Bs.alloc {w : World} {base : Nat} {v : Value} {l : List UInt8} (h : Bs w base v l) (o : Obj) : Bs (w.alloc o) base v l := World.ownsRow.alloc h o
theorem Bs.new (w : World) : Bs (w.alloc (.cells #[] 5)) w.heap.size (.slice (some ⟨w.heap.size, 0, none⟩) 0 0) [] :=
  World.ownsRow_made w #[] 0 (Nat.le_refl _) (by decide) rfl
theorem grown_below {w w' : World} {base B : Nat} {v : Value} {l : List UInt8} (h : Bs w base v l) (g : w.grownBy w' v.ownBlock) (hB : B ≤ base) (hs : B ≤ w.heap.size) : Below B w w' :=
  ⟨g.os, g.tape, g.output, g.size, fun k hk => g.block k (by omega) (fun e => by have := (World.ownsRow.lt h k e.symm).1; omega)⟩
theorem grown_only {w0 w w' : World} {base c : Nat} {v : Value} {l : List UInt8} (o : Only c w0 w) (h : Bs w base v l) (g : w.grownBy w' v.ownBlock) (hb : w0.heap.size ≤ base) : Only c w0 w' :=
  ⟨g.os.trans o.os, g.tape.trans o.tape, g.output.trans o.output, Nat.le_trans o.size g.size, fun k hk hc => (g.block k (Nat.lt_of_lt_of_le hk o.size) (fun e => by have := (World.ownsRow.lt h k e.symm).1; omega)).trans (o.block k hk hc)⟩
theorem Bs.more {w : World} {base : Nat} {v : Value} {l : List UInt8} {x : Nat} (hx : x < 256) (h : w.ownsRow base 5 1 v (l.length + 1) (l.map (fun b => Value.int .u8 (b.toNat : Int)) ++ [.int .u8 (x : Int)])) : Bs w base v (l ++ [UInt8.ofNat x]) := by
  unfold Bs
  have e : (UInt8.ofNat x).toNat = x := by simp; omega
  rw [List.length_append, List.map_append, List.map_cons, List.map_nil, e]
  exact h
theorem Bs.back {w : World} {base : Nat} {v : Value} {l : List UInt8} (h : Bs w base v l) : (convert 22 9 v).run Tryz.prog w = .ok (.string ⟨l.toArray⟩) w := by
  rcases h.2 with ⟨rfl, h0⟩ | ⟨g, cap, cur, rfl, hb, hg, rest⟩
  · have hl : l = [] := List.eq_nil_of_length_eq_zero h0
    subst hl
    exact run_convert_bytes_nil (P := Tryz.prog) w 22 5 Tryz.underlying22 Tryz.underlying5 0 0 9 Tryz.underlying9
  · refine run_convert_bytes_back _ _ _ 5 ⟨g, 0, none⟩ cap l Tryz.underlying22 Tryz.underlying5 Tryz.underlying9 (fun j hj => ?_)
    exact World.ownsRow.cells h (g := g) rfl j _ (by simp [List.getElem?_eq_getElem hj])
theorem Bs.set0 {w : World} {base g cap n : Nat} {b : UInt8} {l : List UInt8} {x : Nat} (hx : x < 256) (h : Bs w base (.slice (some ⟨g, 0, none⟩) n cap) (b :: l)) :
    w.cell? ⟨g, 0, none⟩ = some (.int .u8 (b.toNat : Int)) ∧ w.frozen? ⟨g, 0, none⟩ = false ∧ base ≤ g ∧ n = l.length + 1 ∧ Bs (w.setCell ⟨g, 0, none⟩ (.int .u8 (x : Int))) base (.slice (some ⟨g, 0, none⟩) n cap) (UInt8.ofNat x :: l) := by
  rcases h.2 with ⟨e, _⟩ | ⟨g', cap', cur, e, hb, hg, hn, hm, hz, ht⟩
  · cases e
  · cases e
    have e : (UInt8.ofNat x).toNat = x := by simp; omega
    have c0 := World.ownsRow.cells h (g := g) rfl 0 (.int .u8 (b.toNat : Int)) rfl
    refine ⟨by simpa [Addr.add] using c0, Joins.unfrozen_of_block hg 0, hb, rfl, ?_, .inr ⟨g, cap, _, rfl, hb, Joins.block_setCell hg _, hn, hm, by simpa using hz, ?_⟩⟩
    · simp
    · rw [Array.toList_setIfInBounds, List.take_set]
      change (List.take ((b :: l).length * 1) cur.toList).set 0 _ = _
      rw [ht, List.map_cons, List.map_cons, e]
      rfl
theorem info8 : (Tryz.prog.info? 5).map (fun i => (i.zero, i.size, i.bytes)) = some (some (.int .u8 0), 1, 1) := by kernel_rfl
set_option maxRecDepth 100000 in
set_option maxHeartbeats 4000000 in
theorem l3DrawText_any (B c : Nat) (a : Option Addr) (len cap : Nat) (w : World) (hC : Cur B w c a len cap) :
    Calls Tryz.prog 18 #[.pointer (some ⟨c, 0, none⟩)] w fun e w' => ∃ s : ByteArray, s.size ≤ 6 ∧ e = .returned (.string s) ∧ Cur B w' c a len cap ∧ Only c w w' := by
  have hlt := hC.lt
  have HC := hidIt hC
  clear hC
  obtain ⟨i0, hi, hz0, hz1, hz2⟩ := info_parts info8
  go_enter Tryz.func18, Tryz.ntmps18
  go_wp2_with (fail)
  refine (l1Below_any B c a len cap 7 _ (by decide) (HC.out.kept ((Below.refl (c + 1) w).alloc (by omega) _))).mono ?_
  rintro e w1 ⟨x, x0, x1, rfl, hC1, hO1⟩
  obtain ⟨xn, rfl⟩ := Int.eq_ofNat_of_zero_le x0
  have S1 := hidIt ((Bs.new w).only hO1 hlt)
  have C1 := hidIt hC1
  have O1 := hidIt (((Only.refl c w).alloc _).trans hO1)
  clear hC1 hO1 HC
  go_wp2_with (fail)
  go_loopw [3, 4] (fun y z wx => ∃ (n : Nat) (l : List UInt8), z = .int .i64 n ∧ n + l.length ≤ 6 ∧ Bs wx w.heap.size y l ∧ Cur B wx c a len cap ∧ Only c w wx) (fun _ z _ => (intOf z).toNat)
  case atStart => exact ⟨xn, [], rfl, by simp; omega, S1.out, C1.out, O1.out⟩
  case round =>
    obtain ⟨n, l, rfl, hn, hS, hCr, hOr⟩ := hrel
    have HS := hidIt hS
    have HCr := hidIt hCr
    have HOr := hidIt hOr
    clear hS hCr hOr S1 C1 O1
    by_cases h0 : 0 < n
    · have h0' : (0 : Int) < n := by omega
      have h0'' : (n : Int) ≤ 6 := by omega
      go_wp2_with (fail)
      refine (l1Below_any B c a len cap 4 _ (by decide) HCr.out).mono ?_
      rintro e w2 ⟨y2, y0, y1, rfl, hC2, hO2⟩
      obtain ⟨yn, rfl⟩ := Int.eq_ofNat_of_zero_le y0
      have S2 := hidIt (HS.out.only hO2 hlt)
      have C2 := hidIt hC2
      have O2 := hidIt (HOr.out.trans hO2)
      have q0 : (yn : Int) < 4 := y1
      clear hC2 hO2
      go_wp2_with (first
        | (at_builtin; refine wpList_append_own _ rfl _ _ 22 rfl w.heap.size 5 i0 (.int .u8 0) 1 1 Tryz.underlying22 hi hz0 hz1 hz2 rfl (by decide) _ _ _ rfl (World.ownsRow.alloc S2.out _) ⟨w2.heap.size, 0, none⟩ 1 1 [.int .u8 (97 + (yn : Int))] rfl rfl ?c1 ?c2 ?c3 ?c4 ?c5 ?_)
        | fail)
      case c1 =>
        intro j u hj
        match j, hj with
        | 0, hj => simp at hj; subst hj; simp [Addr.add]
      case c2 => intro u hu; simp at hu; subst hu; rfl
      case c3 => unfold maxLen; omega
      case c4 => omega
      case c5 => have := O2.out.size; simp; omega
      · intro v' w3 hown' hgrow _
        have S3 := hidIt (Bs.more (x := 97 + yn) (by omega) (by rw [show ((97 + yn : Nat) : Int) = 97 + (yn : Int) from by omega]; exact hown'))
        have C3 := hidIt ((C2.out.kept ((Below.refl (c + 1) w2).alloc (by have := C2.out.lt; omega) _)).kept (grown_below (S2.out.alloc _) hgrow (by omega) (by have := C2.out.lt; simp; omega)))
        have O3 := hidIt (grown_only (O2.out.alloc _) (S2.out.alloc _) hgrow (Nat.le_refl _))
        clear hown' hgrow
        go_wp2_with (fail)
        refine ⟨⟨n - 1, l ++ [UInt8.ofNat (97 + yn)], ?_, by simp; omega, S3.out, C3.out, O3.out⟩, by simp [intOf]; omega⟩
        congr 1
        omega
    · have h0' : ¬ (0 : Int) < n := by omega
      go_wp2_with (fail)
      refine (l1Once_any B c a len cap 8 _ (by decide) HCr.out).mono ?_
      rintro e w4 ⟨bx, rfl, hC4, hO4⟩
      have S4 := hidIt (HS.out.only hO4 hlt)
      have C4 := hidIt hC4
      have O4 := hidIt (HOr.out.trans hO4)
      clear hC4 hO4 HS HCr HOr
      have hform : (∃ a' n' c', u3 = .slice a' n' c' ∧ n' = l.length) := by
        rcases S4.out.2 with ⟨e, h0⟩ | ⟨g, cp, cur, e, _⟩
        · exact ⟨none, 0, 0, e, h0.symm⟩
        · exact ⟨_, _, _, e, rfl⟩
      obtain ⟨a', n', c', rfl, hn'⟩ := hform
      have HN := hidIt hn'
      clear hn'
      have hcv := S4.out.back
      have hsz : (⟨l.toArray⟩ : ByteArray).size ≤ 6 := by show l.toArray.size ≤ 6; simp; omega
      cases bx with
      | false =>
        go_wp2_with (fail)
        go_ret
        exact ⟨_, hsz, rfl, C4.out, O4.out⟩
      | true =>
        by_cases hl : l = []
        · have hn0 : ¬ (0 : Int) < (n' : Int) := by have hn' := HN.out; subst hl; simp at hn'; omega
          clear hl
          go_wp2_with (fail)
          go_ret
          exact ⟨_, hsz, rfl, C4.out, O4.out⟩
        · obtain ⟨b0, l', rfl⟩ := List.exists_cons_of_ne_nil hl
          have hn0 : (0 : Int) < (n' : Int) := by have hn' := HN.out; simp at hn'; omega
          clear hcv hsz
          obtain ⟨g, rfl⟩ : ∃ g, a' = some ⟨g, 0, none⟩ := by
            rcases S4.out.2 with ⟨e, h0⟩ | ⟨g, cp, cur, e, _⟩
            · cases e; have hn' := HN.out; simp at hn'
            · cases e; exact ⟨g, rfl⟩
          go_wp2_with (fail)
          refine (l1Byte_any B c a len cap _ C4.out).mono ?_
          rintro e w5 ⟨x, x0, x1, rfl, hC5, hO5⟩
          obtain ⟨xm, rfl⟩ := Int.eq_ofNat_of_zero_le x0
          have hx2 : xm < 256 := by omega
          obtain ⟨k0, k1, k2, k3, k4⟩ := Bs.set0 hx2 (S4.out.only hO5 hlt)
          have C5 := hidIt hC5
          have O5 := hidIt (O4.out.trans hO5)
          have hcv := k4.back
          have hsz : (⟨(UInt8.ofNat xm :: l').toArray⟩ : ByteArray).size ≤ 6 := by show (UInt8.ofNat xm :: l').toArray.size ≤ 6; have hn' := HN.out; simp at hn' ⊢; simp at hn; omega
          clear hC5 hO5 k4 k3
          generalize (⟨(UInt8.ofNat xm :: l').toArray⟩ : ByteArray) = st at hcv hsz
          go_wp2_with (fail)
          go_ret
          exact ⟨_, hsz, rfl, C5.out.kept ((Below.refl (c + 1) w5).setCell (by simp; omega) _), O5.out.setNew (by simpa using k2) _⟩
end Go.Proofs.YtciikondckoboaaGreatDoor.Sg
namespace Go.Proofs.YtciikondckoboaaGreatDoor.Sg
open Go.ChangeShapes Go.WideShapes Go.ChangeAt Go.RowKit
open Dr Cv Cu
end Go.Proofs.YtciikondckoboaaGreatDoor.Sg
namespace Go.Proofs.YtciikondckoboaaGreatDoor.Sg
open Go.ChangeShapes Go.WideShapes Go.ChangeAt Go.RowKit
/-- The numeral of a number. -/
def numS (n : Nat) : ByteArray := ⟨(Lib.itoa n).toArray⟩
def blank : ByteArray := ⟨#[32]⟩
/-- X and Y of a Point, a blank behind each. -/
def ptS (a b : Nat) : ByteArray := numS a ++ blank ++ numS b ++ blank
theorem numS_size (n : Nat) (h : n ≤ 1099511627776) : (numS n).size ≤ 21 := by
  have := Lib.itoa_length_le (n : Int) (by omega) (by omega)
  show (Lib.itoa n).toArray.size ≤ 21
  simpa using this
theorem blank_size : blank.size = 1 := rfl
theorem ptS_size (a b : Nat) (ha : a ≤ 1099511627776) (hb : b ≤ 1099511627776) : (ptS a b).size ≤ 44 := by
  have h1 := numS_size a ha
  have h2 := numS_size b hb
  unfold ptS
  rw [ByteArray.size_append, ByteArray.size_append, ByteArray.size_append, blank_size]
  omega
theorem bcell' {W w1 : World} (hb : Below W.heap.size W w1) : (∀ b o, b < W.heap.size → w1.cell? ⟨b, o, none⟩ = W.cell? ⟨b, o, none⟩) ∧ (∀ b o, b < W.heap.size → w1.frozen? ⟨b, o, none⟩ = W.frozen? ⟨b, o, none⟩) :=
  ⟨fun _ _ h => hb.cell (by simpa using h), fun _ _ h => hb.frozen (by simpa using h)⟩
set_option maxRecDepth 100000 in
set_option maxHeartbeats 4000000 in
theorem l3Point_any (a b : Nat) (w : World) (ha : a ≤ 1099511627776) (hb : b ≤ 1099511627776) :
    Calls Tryz.prog 38 #[.agg #[.int .i64 a, .int .i64 b]] w fun e w' => e = .returned (.string (ptS a b)) ∧ Below w.heap.size w w' := by
  have ca := fun w => l1Int_any a w ha
  have cb := fun w => l1Int_any b w hb
  have sa := numS_size a ha
  have sb := numS_size b hb
  have ep : ptS a b = numS a ++ ⟨#[32]⟩ ++ numS b ++ ⟨#[32]⟩ := rfl
  rw [ep]
  clear ep
  change ∀ w, Calls Tryz.prog _ _ w fun e w' => e = .returned (.string (numS a)) ∧ _ at ca
  change ∀ w, Calls Tryz.prog _ _ w fun e w' => e = .returned (.string (numS b)) ∧ _ at cb
  have CA := hidIt ca
  have CB := hidIt cb
  clear ca cb
  generalize numS a = xa at CA sa ⊢
  generalize numS b = xb at CB sb ⊢
  have q0 : (⟨#[32]⟩ : ByteArray).size = 1 := rfl
  have q1 : ¬ 9223372036854775807 < xa.size + 1 := by omega
  have q2 : ¬ 9223372036854775807 < xa.size + 1 + xb.size := by omega
  have q3 : ¬ 9223372036854775807 < xa.size + 1 + xb.size + 1 := by omega
  go_enter Tryz.func38, Tryz.ntmps38
  go_wp2_with (fail)
  go_region_with (go_at_call 37; first | (with_reducible refine (CA.out _).mono ?_; rintro e w1 ⟨rfl, hb1⟩; obtain ⟨hc1, hf1⟩ := bcell' hb1; have z1 := hb1.size; try simp at z1) | (with_reducible refine (CB.out _).mono ?_; rintro e w2 ⟨rfl, hb2⟩; obtain ⟨hc2, hf2⟩ := bcell' hb2; have z2 := hb2.size; try simp at z2))
  all_goals
    go_wp2_with (fail)
    go_ret
    exact ⟨rfl, ((Below.drew ((Below.refl w.heap.size w).alloc (Nat.le_refl _) _)).trans (hb1.mono (B' := w.heap.size) (by simp))).trans (hb2.mono (B' := w.heap.size) (by omega))⟩
/-- The challenge of R and the key, both Points, and a text. -/
def chN (r1 r2 k1 k2 : Nat) (s : ByteArray) : Nat := hashN (nums (ptS r1 r2 ++ ptS k1 k2 ++ s)) % 2549
theorem chN_lt (r1 r2 k1 k2 : Nat) (s : ByteArray) : chN r1 r2 k1 k2 s < 2549 := Nat.mod_lt _ (by omega)
set_option maxRecDepth 100000 in
set_option maxHeartbeats 4000000 in
theorem l3Challenge_any (r1 r2 k1 k2 : Nat) (s : ByteArray) (w : World) (h1 : r1 ≤ 1099511627776) (h2 : r2 ≤ 1099511627776) (h3 : k1 ≤ 1099511627776) (h4 : k2 ≤ 1099511627776) (hs : s.size ≤ 4611686018427380000) :
    Calls Tryz.prog 61 #[.agg #[.int .i64 r1, .int .i64 r2], .agg #[.int .i64 k1, .int .i64 k2], .string s] w fun e w' => e = .returned (.int .i64 (chN r1 r2 k1 k2 s)) ∧ Below w.heap.size w w' := by
  have CA := hidIt (fun w => l3Point_any r1 r2 w h1 h2)
  have CB := hidIt (fun w => l3Point_any k1 k2 w h3 h4)
  have sa := ptS_size r1 r2 h1 h2
  have sb := ptS_size k1 k2 h3 h4
  have ec : ((chN r1 r2 k1 k2 s : Nat) : Int) = (hashN (nums (ptS r1 r2 ++ ptS k1 k2 ++ s)) : Int).tmod 2549 := by unfold chN; rw [Int.tmod_eq_emod_of_nonneg (by omega)]; omega
  rw [ec]
  clear ec
  generalize ptS r1 r2 = xa at CA sa ⊢
  generalize ptS k1 k2 = xb at CB sb ⊢
  have CH := hidIt (fun w => spec_Hash (xa ++ xb ++ s) w (by rw [ByteArray.size_append, ByteArray.size_append]; omega))
  have q0 : (0 : Int) ≤ (hashN (nums (xa ++ xb ++ s)) : Int) := by omega
  generalize (hashN (nums (xa ++ xb ++ s)) : Int) = hh at CH q0 ⊢
  have q1 : ¬ 9223372036854775807 < xa.size + xb.size := by omega
  have q2 : ¬ 9223372036854775807 < xa.size + xb.size + s.size := by omega
  go_enter Tryz.func61, Tryz.ntmps61
  go_wp2_with (fail)
  go_region_with (first
    | (go_at_call 38; first | (with_reducible refine (CA.out _).mono ?_; rintro e w1 ⟨rfl, hb1⟩; obtain ⟨hc1, hf1⟩ := bcell' hb1; have z1 := hb1.size; try simp at z1) | (with_reducible refine (CB.out _).mono ?_; rintro e w2 ⟨rfl, hb2⟩; obtain ⟨hc2, hf2⟩ := bcell' hb2; have z2 := hb2.size; try simp at z2))
    | (go_at_call 57; refine (CH.out _).mono ?_; rintro e w3 ⟨rfl, rfl⟩))
  all_goals
    go_wp2_with (fail)
    go_ret
    exact ⟨rfl, ((Below.drew (((Below.refl w.heap.size w).alloc (Nat.le_refl _) _).alloc (by simp) _)).trans (hb1.mono (B' := w.heap.size) (by simp; omega))).trans (hb2.mono (B' := w.heap.size) (by omega))⟩
end Go.Proofs.YtciikondckoboaaGreatDoor.Sg

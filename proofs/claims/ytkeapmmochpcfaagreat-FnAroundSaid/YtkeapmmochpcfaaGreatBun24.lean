/- Told and Around of the specification. -/
import Derived.Test.YtkeapmmochpcfaaGreatBun23
import Derived.Test.YtkeapmmochpcfaaGreatBun4
import Derived.Laws.StructEq
import Derived.WideLaws
import Derived.Test.YtkeapmmochpcfaaGreatBun2
import Derived.Test.YtkeapmmochpcfaaGreatBun6
set_option maxRecDepth 100000
set_option maxHeartbeats 32000000
set_option linter.unusedVariables false
namespace Go.Proofs.YtkeapmmochpcfaaGreat.Bk
structure Gok (G : List (List En)) : Prop where
 ok : ∀ b ∈ G,okBk b = true
 len : (whole G).length ≤ 80
theorem Gok.ris {G : List (List En)} (h : Gok G) : AllRis G:=fun b hb=>ok_ris (h.ok b hb)
theorem Gok.tell {G : List (List En)} (h : Gok G) {f t : Nat} (hf : f < G.length) (ht : t < G.length) : Gok (tell G f t):=by
 have hr:=h.ris
 have hw:=tell_whole hr hf ht
 refine ⟨fun b hb=>?_,by rw [hw]; exact h.len⟩
 have hl:=len_whole (tell_ris hr hf ht) hb
 rw [hw] at hl
 rcases List.mem_or_eq_of_mem_set hb with q | q
 ·
  exact h.ok b q
 ·
  subst q
  have h1:=h.ok _ (at0_mem ht)
  have h2:=h.ok _ (at0_mem hf)
  have j:=merge_join _ _ (ok_ris h1) (ok_ris h2)
  exact ok_mk (Nat.le_trans hl h.len) (fun e he=>by
   rcases j.mem he with q | q
   ·
    exact ok_all h1 q
   ·
    exact ok_all h2 q) j.ris
end Go.Proofs.YtkeapmmochpcfaaGreat.Bk
namespace Go.Proofs.YtkeapmmochpcfaaGreat.Mk
structure Gok (G : List (List En)) : Prop where
 ok : ∀ b ∈ G,okBk b = true
theorem Gok.ris {G : List (List En)} (h : Gok G) : AllRis G:=fun b hb=>ok_ris (h.ok b hb)
theorem Gok.tell {G : List (List En)} (h : Gok G) {f t : Nat} (hf : f < G.length) (ht : t < G.length) : Gok (tell G f t):=by
 refine ⟨fun b hb=>?_⟩
 rcases List.mem_or_eq_of_mem_set hb with q | q
 ·
  exact h.ok b q
 ·
  subst q
  have h1:=h.ok _ (at0_mem ht)
  have h2:=h.ok _ (at0_mem hf)
  exact merge_ok h1 h2 (merge_join _ _ (ok_ris h1) (ok_ris h2))
end Go.Proofs.YtkeapmmochpcfaaGreat.Mk
namespace Go.Proofs.YtkeapmmochpcfaaGreat.Rp
open Go.ChangeShapes Go.WideShapes Go.ChangeAt Go.RowKit
open Vv (Sl sv hidIt)
theorem okG_iff (L : List Rep) : okG L = true ↔ 1 ≤ L.length ∧ L.length ≤ 6 ∧ Bk.Gok (bks L) ∧ Mk.Gok (mbs L):=by
 constructor
 ·
  intro h
  obtain ⟨h1,h2,h3,h4⟩:=okG_all h
  refine ⟨h1,h2,⟨fun b hb=>?_,h4⟩,⟨fun b hb=>?_⟩⟩
  ·
   obtain ⟨r,hr,rfl⟩:=List.mem_map.1 hb
   obtain ⟨i,hi,rfl⟩:=List.mem_iff_getElem.1 hr
   have:=h3 i hi
   rw [rat_at hi] at this
   unfold okR at this
   rw [Bool.and_eq_true] at this
   exact this.1
  ·
   obtain ⟨r,hr,rfl⟩:=List.mem_map.1 hb
   obtain ⟨i,hi,rfl⟩:=List.mem_iff_getElem.1 hr
   have:=h3 i hi
   rw [rat_at hi] at this
   unfold okR at this
   rw [Bool.and_eq_true] at this
   exact this.2
 ·
  rintro ⟨h1,h2,h3,h4⟩
  refine okG_mk h1 h2 (fun i hi=>?_) h3.len
  unfold okR
  rw [Bool.and_eq_true]
  exact ⟨h3.ok _ (List.mem_map.2 ⟨_,rat_mem hi,rfl⟩),h4.ok _ (List.mem_map.2 ⟨_,rat_mem hi,rfl⟩)⟩
theorem okG_tell {L M : List Rep} {f t : Nat} (h : okG L = true) (hf : f < L.length) (ht : t < L.length) (k : TellR L M f t) : okG M = true:=by
 obtain ⟨h1,h2,h3,h4⟩:=(okG_iff L).1 h
 refine (okG_iff M).2 ⟨by rw [k.len]; exact h1,by rw [k.len]; exact h2,?_,?_⟩
 ·
  rw [k.bk]; exact h3.tell (by rw [bks_length]; exact hf) (by rw [bks_length]; exact ht)
 ·
  rw [k.mb]; exact h4.tell (by rw [mbs_length]; exact hf) (by rw [mbs_length]; exact ht)
theorem rows_inj {M M' : List Rep} (h1 : bks M = bks M') (h2 : mbs M = mbs M') : M = M':=by
 have hl : M.length = M'.length:=by rw [← bks_length M,h1,bks_length]
 refine ext_rat hl (fun i hi=>?_)
 have e1:=bks_at hi
 have e2:=mbs_at hi
 rw [h1,bks_at (by omega)] at e1
 rw [h2,mbs_at (by omega)] at e2
 exact Prod.ext (En.toB_inj e1).symm (Mm.toB_inj e2).symm
def inG (n : Nat) (f t : Int) : Prop:=0 ≤ f ∧ f < n ∧ 0 ≤ t ∧ t < n ∧ f ≠ t
structure ToldR (L : List Rep) (f t : Int) (M : List Rep) (b : Bool) : Prop where
 no : okG L = false → M = [] ∧ b = false
 out : okG L = true → ¬ inG L.length f t → M = L ∧ b = false
 yes : okG L = true → inG L.length f t → TellR L M f.toNat t.toNat ∧ b = true
theorem ToldR.mkNo {L : List Rep} {f t : Int} (ok : okG L = false) : ToldR L f t [] false:=⟨fun _=>⟨rfl,rfl⟩,(fun q=>by rw [ok] at q; cases q),(fun q=>by rw [ok] at q; cases q)⟩
theorem ToldR.mkOut {L : List Rep} {f t : Int} (ok : okG L = true) (h : ¬ inG L.length f t) : ToldR L f t L false:=⟨(fun q=>by rw [ok] at q; cases q),fun _ _=>⟨rfl,rfl⟩,fun _ q=>absurd q h⟩
theorem ToldR.mkYes {L M : List Rep} {f t : Int} (ok : okG L = true) (h : inG L.length f t) (k : TellR L M f.toNat t.toNat) : ToldR L f t M true:=⟨(fun q=>by rw [ok] at q; cases q),fun _ q=>absurd h q,fun _ _=>⟨k,rfl⟩⟩
def TolP (L : List Rep) (f t : Int) (w : World) (e : Ending) (w' : World) : Prop:=∃ v M b,e = .returned (.tuple #[v,.bool b]) ∧ ToldR L f t M b ∧ Own w' w.heap.size w'.heap.size v M ∧ Below w.heap.size w w'
theorem TolP.of {L M : List Rep} {f t : Int} {w w' : World} {e : Ending} {v : Value} {b : Bool} (h : e = .returned (.tuple #[v,.bool b])) (h1 : ToldR L f t M b) (h2 : Own w' w.heap.size w'.heap.size v M) (h3 : Below w.heap.size w w') : TolP L f t w e w':=⟨v,M,b,h,h1,h2,h3⟩
theorem TolP.out {L : List Rep} {f t : Int} {w w' : World} {e : Ending} (h : TolP L f t w e w') : ∃ v M b,e = .returned (.tuple #[v,.bool b]) ∧ ToldR L f t M b ∧ Own w' w.heap.size w'.heap.size v M ∧ Below w.heap.size w w':=h
theorem own_zero {w : World} {lo hi : Nat} {a : Option Addr} {m cap : Nat} {L : List Rep} (h : Own w lo hi (.slice a m cap) L) (hl : 0 < L.length) : ∃ g,a = some ⟨g,0,none⟩:=by
 obtain ⟨C,h⟩:=h
 obtain ⟨a',c',e',_,_,r,_,hs⟩:=h.row.form
 obtain ⟨rfl,_,_⟩:=Value.slice.inj e'
 obtain ⟨b,off,e,_⟩:=r.cell 0 (by rw [h.len]; exact hl)
 obtain ⟨g,eg,_⟩:=hs _ e
 rw [e,eg]
 exact ⟨g,rfl⟩
end Go.Proofs.YtkeapmmochpcfaaGreat.Rp
namespace Go.Proofs.YtkeapmmochpcfaaGreat.Rp
open Go.ChangeShapes Go.WideShapes Go.ChangeAt Go.RowKit
open Vv (Sl sv hidIt)
structure ArndR (L M : List Rep) : Prop where
 no : okG L = false → M = []
 bk : okG L = true → bks M = Bk.around (bks L)
 mb : okG L = true → mbs M = Mk.around (mbs L)
theorem ArndR.unique {L M M' : List Rep} (h : ArndR L M) (h' : ArndR L M') : M = M':=by
 cases ok : okG L with
 | false=>rw [h.no ok,h'.no ok]
 | true=>exact rows_inj ((h.bk ok).trans (h'.bk ok).symm) ((h.mb ok).trans (h'.mb ok).symm)
theorem ArndR.mkNo {L : List Rep} (ok : okG L = false) : ArndR L []:=⟨fun _=>rfl,(fun q=>by rw [ok] at q; cases q),(fun q=>by rw [ok] at q; cases q)⟩
theorem ArndR.mkYes {L M : List Rep} (ok : okG L = true) (h1 : bks M = Bk.around (bks L)) (h2 : mbs M = Mk.around (mbs L)) : ArndR L M:=⟨(fun q=>by rw [ok] at q; cases q),fun _=>h1,fun _=>h2⟩
theorem whole_is {L : List Rep} (h : Tame L) : ∃ J : Rep,En.toB J.1 = Bk.whole (bks L) ∧ Mm.toB J.2 = Mk.whole (mbs L):=by
 have e : ∀ K : List Bk.En,(∀ x ∈ K,∃ y : En.Rw,En.toE y = x) → ∃ J,En.toB J = K:=by
  intro K
  induction K with
  | nil=>intro _; exact ⟨[],rfl⟩
  | cons x K ih =>
   intro hk
   obtain ⟨J,hJ⟩:=ih (fun z hz=>hk z (List.mem_cons_of_mem _ hz))
   obtain ⟨y,hy⟩:=hk x (List.mem_cons_self ..)
   exact ⟨y :: J,by rw [← hJ,← hy]; rfl⟩
 have e' : ∀ K : List Mk.En,(∀ x ∈ K,∃ y : Mm.Rw,Mm.toE y = x) → ∃ J,Mm.toB J = K:=by
  intro K
  induction K with
  | nil=>intro _; exact ⟨[],rfl⟩
  | cons x K ih =>
   intro hk
   obtain ⟨J,hJ⟩:=ih (fun z hz=>hk z (List.mem_cons_of_mem _ hz))
   obtain ⟨y,hy⟩:=hk x (List.mem_cons_self ..)
   exact ⟨y :: J,by rw [← hJ,← hy]; rfl⟩
 obtain ⟨J1,h1⟩:=e (Bk.whole (bks L)) (fun x hx=>by
  obtain ⟨b,hb,hxb⟩:=Bk.whole_mem h.bris hx
  obtain ⟨r,_,rfl⟩:=List.mem_map.1 hb
  obtain ⟨y,_,hy⟩:=List.mem_map.1 hxb
  exact ⟨y,hy⟩)
 obtain ⟨J2,h2⟩:=e' (Mk.whole (mbs L)) (fun x hx=>by
  obtain ⟨b,hb,hxb⟩:=Mk.whole_mem h.mris hx
  obtain ⟨r,_,rfl⟩:=List.mem_map.1 hb
  obtain ⟨y,_,hy⟩:=List.mem_map.1 hxb
  exact ⟨y,hy⟩)
 exact ⟨(J1,J2),h1,h2⟩
def ArlP (lo g m cap : Nat) (L : List Rep) (w : World) (e : Ending) (w' : World) : Prop:=e = .returned (.tuple #[]) ∧ ∃ M,(bks M = Bk.around (bks L) ∧ mbs M = Mk.around (mbs L)) ∧ Own w' lo w'.heap.size (.slice (some ⟨g,0,none⟩) m cap) M ∧ Below lo w w'
theorem ArlP.of {lo g m cap : Nat} {L : List Rep} {w w' : World} {e : Ending} {M : List Rep} (h : e = .returned (.tuple #[])) (h1 : bks M = Bk.around (bks L)) (h2 : mbs M = Mk.around (mbs L)) (h3 : Own w' lo w'.heap.size (.slice (some ⟨g,0,none⟩) m cap) M) (h4 : Below lo w w') : ArlP lo g m cap L w e w':=⟨h,M,⟨h1,h2⟩,h3,h4⟩
theorem ArlP.out {lo g m cap : Nat} {L : List Rep} {w w' : World} {e : Ending} (h : ArlP lo g m cap L w e w') : e = .returned (.tuple #[]) ∧ ∃ M,(bks M = Bk.around (bks L) ∧ mbs M = Mk.around (mbs L)) ∧ Own w' lo w'.heap.size (.slice (some ⟨g,0,none⟩) m cap) M ∧ Below lo w w':=h
theorem spec_l13Around (lo g m cap : Nat) (L : List Rep) (w : World) (h : Own w lo w.heap.size (.slice (some ⟨g,0,none⟩) m cap) L) (ok : okG L = true) (hm : L.length = m) :
  Calls Tryz.prog 48 #[.slice (some ⟨g,0,none⟩) m cap] w fun e w'=>ArlP lo g m cap L w e w':=by
 have hall:=okG_all ok
 have h1 : 1 ≤ m:=by rw [← hm]; exact hall.1
 have h6 : m ≤ 6:=by rw [← hm]; exact hall.2.1
 have CT:=hidIt (fun (f t : Nat) (K : List Rep) W (o : Own W lo W.heap.size (.slice (some ⟨g,0,none⟩) m cap) K) (ok : okG K = true) (hk : K.length = m) hf ht=>spec_l13Tell lo g m cap f t K W o (okG_tame ok) hk hf ht)
 have HOT:=hidIt (fun (K M : List Rep) (f t : Nat) (ok : okG K = true) hf ht (k : TellR K M f t)=>okG_tell ok hf ht k)
 have HLB : Hid ((bks L).length = m):=hidIt (by rw [bks_length]; exact hm)
 have HLM : Hid ((mbs L).length = m):=hidIt (by rw [mbs_length]; exact hm)
 have HO:=hidIt h
 have HOK:=hidIt ok
 have HM:=hidIt hm
 clear h ok hm hall
 go_enter Tryz.func48,Tryz.ntmps48
 go_wp2_with (fail)
 go_loopw [2] (fun y wx=>∃ (i : Nat) (M : List Rep),y = .int .i64 i ∧ i + 1 ≤ m ∧ Hid (M.length = m) ∧ Hid (okG M = true) ∧ Hid (bks M = Bk.pass (bks L) i) ∧ Hid (mbs M = Mk.pass (mbs L) i) ∧ Hid (Own wx lo wx.heap.size (.slice (some ⟨g,0,none⟩) m cap) M) ∧ Hid (Below lo w wx)) (fun y _=>(m - intOf y).toNat)
 case atStart=>exact ⟨0,L,rfl,by omega,HM,HOK,hidIt rfl,hidIt rfl,HO,hidIt (Below.refl _ _)⟩
 case round =>
  obtain ⟨i,M,rfl,hi,hML,hMK,hB,hMb,HOx,HBx⟩:=hrel
  clear HO
  by_cases hin : i + 1 < m
  ·
   have hin' : (i : Int) + 1 < (m : Int):=by omega
   have C:=hidIt (CT.out i (i + 1) M wr HOx.out hMK.out hML.out (by omega) hin)
   rw [show ((i + 1 : Nat) : Int) = (i : Int) + 1 from by omega] at C
   go_wp2_with (fail)
   refine C.out.mono ?_
   intro e w1 hz
   obtain ⟨rfl,M',hM',o',k'⟩:=hz.out
   have HO1:=hidIt o'
   have HB1:=hidIt (HBx.out.trans k')
   have HK1:=hidIt (HOT.out M M' i (i + 1) hMK.out (by rw [hML.out]; omega) (by rw [hML.out]; omega) hM')
   have HL1 : Hid (M'.length = m):=hidIt (hM'.len.trans hML.out)
   have HE1 : Hid (bks M' = Bk.pass (bks L) (i + 1)):=hidIt (by rw [hM'.bk,hB.out,Bk.pass_succ])
   have HE2 : Hid (mbs M' = Mk.pass (mbs L) (i + 1)):=hidIt (by rw [hM'.mb,hMb.out,Mk.pass_succ])
   clear hz o' k' hM' C HOx HBx hB hMb hMK hML
   go_wp2_with (fail)
   exact ⟨⟨i + 1,M',by simp,by omega,HL1,HK1,HE1,HE2,HO1,HB1⟩,by simp [intOf]; omega⟩
  ·
   have hin' : ¬ (i : Int) + 1 < (m : Int):=by omega
   have him : Hid (i = m - 1):=hidIt (by omega)
   by_cases hm1 : 1 < m
   ·
    have hm1' : (1 : Int) < (m : Int):=by omega
    have C:=hidIt (CT.out (m - 1) 0 M wr HOx.out hMK.out hML.out (by omega) (by omega))
    rw [show ((m - 1 : Nat) : Int) = (m : Int) - 1 from by omega] at C
    simp only [Int.natCast_zero] at C
    go_wp2_with (fail)
    refine C.out.mono ?_
    intro e w1 hz
    obtain ⟨rfl,M',hM',o',k'⟩:=hz.out
    have HO1:=hidIt o'
    have HB1:=hidIt (HBx.out.trans k')
    have HK1:=hidIt (HOT.out M M' (m - 1) 0 hMK.out (by rw [hML.out]; omega) (by rw [hML.out]; omega) hM')
    have HL1 : Hid (M'.length = m):=hidIt (hM'.len.trans hML.out)
    have HE1 : Hid (bks M' = Bk.round1 (bks L)):=hidIt (by
     unfold Bk.round1
     rw [HLB.out,if_pos hm1,hM'.bk,hB.out,him.out])
    have HE2 : Hid (mbs M' = Mk.round1 (mbs L)):=hidIt (by
     unfold Mk.round1
     rw [HLM.out,if_pos hm1,hM'.mb,hMb.out,him.out])
    clear hz o' k' hM' C HOx HBx hB hMb hMK hML him
    go_wp2_with (fail)
    go_loopw [3] (fun y wx=>∃ (i : Nat) (K : List Rep),y = .int .i64 i ∧ i + 1 ≤ m ∧ Hid (K.length = m) ∧ Hid (okG K = true) ∧ Hid (bks K = Bk.pass (Bk.round1 (bks L)) i) ∧ Hid (mbs K = Mk.pass (Mk.round1 (mbs L)) i) ∧ Hid (Own wx lo wx.heap.size (.slice (some ⟨g,0,none⟩) m cap) K) ∧ Hid (Below lo w wx)) (fun y _=>(m - intOf y).toNat)
    case atStart=>exact ⟨0,M',rfl,by omega,HL1,HK1,HE1,HE2,HO1,HB1⟩
    case round =>
     obtain ⟨j,K,rfl,hj,hKL,hKK,hKB,hKM,HOk,HBk⟩:=hrel
     clear HO1 HB1 HK1 HL1 HE1 HE2
     by_cases hjn : j + 1 < m
     ·
      have hjn' : (j : Int) + 1 < (m : Int):=by omega
      have C:=hidIt (CT.out j (j + 1) K wr HOk.out hKK.out hKL.out (by omega) hjn)
      rw [show ((j + 1 : Nat) : Int) = (j : Int) + 1 from by omega] at C
      go_wp2_with (fail)
      refine C.out.mono ?_
      intro e w2 hz
      obtain ⟨rfl,K',hK',o',k'⟩:=hz.out
      have HO2:=hidIt o'
      have HB2:=hidIt (HBk.out.trans k')
      have HK2:=hidIt (HOT.out K K' j (j + 1) hKK.out (by rw [hKL.out]; omega) (by rw [hKL.out]; omega) hK')
      have HL2 : Hid (K'.length = m):=hidIt (hK'.len.trans hKL.out)
      have HE3 : Hid (bks K' = Bk.pass (Bk.round1 (bks L)) (j + 1)):=hidIt (by rw [hK'.bk,hKB.out,Bk.pass_succ])
      have HE4 : Hid (mbs K' = Mk.pass (Mk.round1 (mbs L)) (j + 1)):=hidIt (by rw [hK'.mb,hKM.out,Mk.pass_succ])
      clear hz o' k' hK' C HOk HBk hKB hKM hKK hKL
      go_wp2_with (fail)
      exact ⟨⟨j + 1,K',by simp,by omega,HL2,HK2,HE3,HE4,HO2,HB2⟩,by simp [intOf]; omega⟩
     ·
      have hjn' : ¬ (j : Int) + 1 < (m : Int):=by omega
      have hjm : Hid (j = m - 1):=hidIt (by omega)
      have E1 : Hid (bks K = Bk.around (bks L)):=hidIt (by unfold Bk.around; rw [HLB.out,hKB.out,hjm.out])
      have E2 : Hid (mbs K = Mk.around (mbs L)):=hidIt (by unfold Mk.around; rw [HLM.out,hKM.out,hjm.out])
      go_wp2_with (fail)
      refine bodyPost_end (v:=.tuple #[]) (by simp [results,Tryz.results48,go_sem]) rfl ?_
      exact ArlP.of rfl E1.out E2.out HOk.out HBk.out
   ·
    have hm1' : ¬ (1 : Int) < (m : Int):=by omega
    obtain rfl : m = 1:=by omega
    have hi0 : Hid (i = 0):=hidIt (by omega)
    have E1 : Hid (bks M = Bk.around (bks L)):=hidIt (by
     unfold Bk.around Bk.round1
     rw [HLB.out,if_neg (by omega),hB.out,hi0.out]
     rfl)
    have E2 : Hid (mbs M = Mk.around (mbs L)):=hidIt (by
     unfold Mk.around Mk.round1
     rw [HLM.out,if_neg (by omega),hMb.out,hi0.out]
     rfl)
    go_wp2_with (fail)
    go_loopw [3] (fun y wx=>y = .int .i64 0 ∧ Hid (Own wx lo wx.heap.size (.slice (some ⟨g,0,none⟩) 1 cap) M) ∧ Hid (Below lo w wx)) (fun y _=>(1 - intOf y).toNat)
    case atStart=>exact ⟨rfl,HOx,HBx⟩
    case round =>
     obtain ⟨rfl,HOk,HBk⟩:=hrel
     go_wp2_with (fail)
     refine bodyPost_end (v:=.tuple #[]) (by simp [results,Tryz.results48,go_sem]) rfl ?_
     exact ArlP.of rfl E1.out E2.out HOk.out HBk.out
def ArnP (L : List Rep) (w : World) (e : Ending) (w' : World) : Prop:=∃ M,ArndR L M ∧ LstP w M e w'
theorem ArnP.of {L M : List Rep} {w w' : World} {e : Ending} (h1 : ArndR L M) (h : LstP w M e w') : ArnP L w e w':=⟨M,h1,h⟩
theorem ArnP.out {L : List Rep} {w w' : World} {e : Ending} (h : ArnP L w e w') : ∃ M,ArndR L M ∧ LstP w M e w':=h
theorem spec_Around (a : Option Addr) (cap : Nat) (L : List Rep) (w : World) (h : Rd w a L) (hs : Short L) (hl : L.length ≤ 9223372036854775807) (hlb : ∀ i,i < L.length → (rat L i).1.length ≤ 9223372036854775807 ∧ (rat L i).2.length ≤ 9223372036854775807) :
  Calls Tryz.prog 22 #[.slice a L.length cap] w fun e w'=>ArnP L w e w':=by
 have CG:=hidIt (fun W (r : Rd W a L)=>spec_GroupOk a cap L W r hs hl hlb)
 have HR:=hidIt h
 clear h hs hlb
 cases ok : okG L with
 | false =>
  rw [ok] at CG
  have HT:=hidIt (ArndR.mkNo ok)
  clear ok
  generalize L.length = m at *
  go_enter Tryz.func22,Tryz.ntmps22
  go_wp2_with (fail)
  refine (CG.out _ HR.out).mono ?_
  rintro e w1 ⟨rfl,k⟩
  have HB1:=hidIt k
  clear k
  go_wp2_with (fail)
  go_ret
  exact ArnP.of HT.out (LstP.of rfl ((Own.new w1).mono HB1.out.size (by simp) (Nat.le_refl _)) (HB1.out.alloc HB1.out.size _))
 | true =>
  rw [ok] at CG
  have hT:=okG_tame ok
  have h1:=(okG_all ok).1
  have CC:=hidIt (fun W (r : Rd W a L)=>spec_l13Copy a cap L W r hT)
  have CA:=hidIt (fun lo g cp W (o : Own W lo W.heap.size (.slice (some ⟨g,0,none⟩) L.length cp) L)=>spec_l13Around lo g L.length cp L W o ok rfl)
  have HTY:=hidIt (fun M h1 h2=>ArndR.mkYes (M:=M) ok h1 h2)
  clear ok hT
  generalize hn : L.length = m at *
  have HN:=hidIt hn
  clear hn
  go_enter Tryz.func22,Tryz.ntmps22
  go_wp2_with (fail)
  refine (CG.out _ HR.out).mono ?_
  rintro e w1 ⟨rfl,k⟩
  have HB1:=hidIt k
  clear k
  go_wp2_with (fail)
  refine (CC.out _ (HR.out.kept HB1.out)).mono ?_
  intro e w2 hz
  obtain ⟨v,rfl,o2,k2⟩:=hz.out
  obtain ⟨va,vc,ev,hvc,hvm,hvn⟩:=o2.formN HN.out
  subst ev
  obtain ⟨g,eg⟩:=own_zero o2 (by rw [HN.out]; exact h1)
  subst eg
  have HB2:=hidIt (on HB1.out k2)
  have HO2:=hidIt (o2.mono HB1.out.size (Nat.le_refl _) (Nat.le_refl _))
  have CA1:=hidIt (CA.out w.heap.size g vc w2 HO2.out)
  clear hz o2 k2 hvn CG CC CA
  go_wp2_with (fail)
  refine CA1.out.mono ?_
  intro e w3 hz
  obtain ⟨rfl,M,⟨e1,e2⟩,o3,k3⟩:=hz.out
  have HB3:=hidIt (HB2.out.trans k3)
  have HO3:=hidIt o3
  have HT:=hidIt (HTY.out M e1 e2)
  clear hz o3 k3 e1 e2
  go_wp2_with (fail)
  go_ret
  exact ArnP.of HT.out (LstP.of rfl HO3.out HB3.out)
structure WhlR (L : List Rep) (J : Rep) : Prop where
 no : okG L = false → J = ([],[])
 bk : okG L = true → En.toB J.1 = Bk.whole (bks L)
 mb : okG L = true → Mm.toB J.2 = Mk.whole (mbs L)
theorem whl_is (L : List Rep) : ∃ J,WhlR L J:=by
 cases ok : okG L with
 | false=>exact ⟨([],[]),fun _=>rfl,(fun q=>by rw [ok] at q; cases q),(fun q=>by rw [ok] at q; cases q)⟩
 | true =>
  obtain ⟨J,h1,h2⟩:=whole_is (okG_tame ok)
  exact ⟨J,(fun q=>by rw [ok] at q; cases q),fun _=>h1,fun _=>h2⟩
theorem arnd_ok {L M : List Rep} (ok : okG L = true) (h : ArndR L M) : okG M = true:=by
 have hT:=okG_tame ok
 obtain ⟨h1,h2,h3,h4⟩:=(okG_iff L).1 ok
 have e1:=h.bk ok
 have e2:=h.mb ok
 have hl : M.length = L.length:=by rw [← bks_length M,e1,Bk.around_length,bks_length]
 have hw : Bk.okBk (Bk.whole (bks L)) = true:=Bk.ok_mk h3.len (fun e he=>by
  obtain ⟨b,hb,q⟩:=Bk.whole_mem hT.bris he
  exact Bk.ok_all (h3.ok b hb) q) (Bk.whole_ris hT.bris)
 have hw' : Mk.okBk (Mk.whole (mbs L)) = true:=by
  have hall : ∀ e ∈ Mk.whole (mbs L),Mk.okE e = true:=fun e he=>by
   obtain ⟨b,hb,q⟩:=Mk.whole_mem hT.mris he
   exact Mk.ok_all (h4.ok b hb) q
  exact Mk.ok_mk (Mk.ris_short _ 0 (Mk.whole_ris hT.mris) (fun e he=>Mk.okE_key (hall e he))) hall (Mk.whole_ris hT.mris)
 refine (okG_iff M).2 ⟨by rw [hl]; exact h1,by rw [hl]; exact h2,?_,?_⟩
 ·
  rw [e1]
  refine ⟨fun b hb=>?_,by rw [Bk.around_whole hT.bris (by rw [bks_length]; exact h1)]; exact h3.len⟩
  rw [Bk.around_eq hT.bris] at hb
  rw [(List.mem_replicate.1 hb).2]
  exact hw
 ·
  rw [e2]
  refine ⟨fun b hb=>?_⟩
  rw [Mk.around_eq hT.mris] at hb
  rw [(List.mem_replicate.1 hb).2]
  exact hw'
end Go.Proofs.YtkeapmmochpcfaaGreat.Rp
namespace Go.Proofs.YtkeapmmochpcfaaGreat.Rp
open Go.ChangeShapes Go.WideShapes Go.ChangeAt Go.RowKit
open Vv (Sl sv hidIt)
open Rc (BelowBy BelowBy.one wp_region_below calls_below calls_same)
theorem spec_l13Like (s t s' t' : Sl) (r r' : Rep) (w : World) (hE : RdE w s r.1) (hM : RdM w t r.2) (hE' : RdE w s' r'.1) (hM' : RdM w t' r'.2) :
  Calls Tryz.prog 50 #[.agg #[sv s,sv t],.agg #[sv s',sv t']] w fun e w'=>e = .returned (.bool (decide (r = r'))) ∧ Below w.heap.size w w':=by
 have D1 : Hid (r.1.length ≠ r'.1.length → decide (r = r') = false):=hidIt (fun q=>decide_eq_false (fun z=>q (by rw [z])))
 have D2 : Hid (r.2.length ≠ r'.2.length → decide (r = r') = false):=hidIt (fun q=>decide_eq_false (fun z=>q (by rw [z])))
 have D3 : Hid (¬ r = r' → decide (r = r') = false):=hidIt (fun q=>decide_eq_false q)
 have D4 : Hid (r.1.length = r'.1.length → r.2.length = r'.2.length → (∀ j,j < r.1.length → En.rat r.1 j = En.rat r'.1 j) → (∀ j,j < r.2.length → Mm.rat r.2 j = Mm.rat r'.2 j) → decide (r = r') = true):=hidIt (fun h1 h2 h3 h4=>decide_eq_true (Prod.ext (En.ext_rat h1 h3) (Mm.ext_rat h2 h4)))
 generalize decide (r = r') = dec at D1 D2 D3 D4 ⊢
 obtain ⟨s0,s1,s2⟩:=s
 obtain ⟨t0,t1,t2⟩:=t
 obtain ⟨p0,p1,p2⟩:=s'
 obtain ⟨q0,q1,q2⟩:=t'
 obtain ⟨e1,rE,_,lE,cE⟩:=hE
 obtain ⟨e2,rM,_,lM,cM⟩:=hM
 obtain ⟨e3,rE',_,_,cE'⟩:=hE'
 obtain ⟨e4,rM',_,_,cM'⟩:=hM'
 simp only at e1 rE lE cE e2 rM lM cM e3 rE' cE' e4 rM' cM'
 have H1:=hidIt rE
 have H2:=hidIt rM
 have H3:=hidIt rE'
 have H4:=hidIt rM'
 have L1:=hidIt e1.symm
 have L2:=hidIt e2.symm
 have L3:=hidIt e3.symm
 have L4:=hidIt e4.symm
 clear rE rM rE' rM'
 rw [L1.out,L3.out] at D1
 rw [L2.out,L4.out] at D2
 rw [L1.out,L2.out,L3.out,L4.out] at D4
 have hs1 : s1 ≤ 9223372036854775807:=by omega
 have ht1 : t1 ≤ 9223372036854775807:=by omega
 clear e1 e2 e3 e4 cE cM cE' cM' lE lM
 have BA:=hidIt ((Bo.Box.new w #[.slice s0 s1 s2,.slice t0 t1 t2] 32).alloc (.cells #[.slice p0 p1 p2,.slice q0 q1 q2] 32))
 have BB : Hid (Bo.Box ((w.alloc (.cells #[.slice s0 s1 s2,.slice t0 t1 t2] 32)).alloc (.cells #[.slice p0 p1 p2,.slice q0 q1 q2] 32)) (w.heap.size + 1) #[.slice p0 p1 p2,.slice q0 q1 q2]):=hidIt (Bo.Box.newAt (by simp))
 have HB0:=hidIt (((Below.refl w.heap.size w).alloc (Nat.le_refl _) (.cells #[.slice s0 s1 s2,.slice t0 t1 t2] 32)).alloc (by simp) (.cells #[.slice p0 p1 p2,.slice q0 q1 q2] 32))
 by_cases h1 : s1 = p1
 ·
  by_cases h2 : t1 = q1
  ·
   subst h1 h2
   have z1 : ((s1 : Int) != (s1 : Int)) = false:=by simp
   have z2 : ((t1 : Int) != (t1 : Int)) = false:=by simp
   generalize s1 = n1 at *
   generalize t1 = n2 at *
   have HNO0:=D3
   go_enter Tryz.func50,Tryz.ntmps50
   go_wp2_with (fail)
   go_loopw [5] (fun y wx=>∃ i : Nat,y = .int .i64 i ∧ i ≤ n1 ∧ Hid (∀ j,j < i → En.rat r.1 j = En.rat r'.1 j) ∧ Hid (Bo.Box wx w.heap.size #[.slice s0 n1 s2,.slice t0 n2 t2]) ∧ Hid (Bo.Box wx (w.heap.size + 1) #[.slice p0 n1 p2,.slice q0 n2 q2]) ∧ Hid (Below w.heap.size w wx)) (fun y _=>(n1 - intOf y).toNat)
   case atStart=>exact ⟨0,rfl,by omega,hidIt (fun j hj=>by omega),BA,BB,HB0⟩
   case round =>
    clear BA BB HB0
    obtain ⟨i,rfl,hi,HQ,BA,BB,HB⟩:=hrel
    have aL:=BA.out.c 0 (v:=.slice s0 n1 s2) rfl
    have HA:=H1
    have HA':=H3
    have HNA:=L1
    have HNB:=L3
    by_cases hin : i < n1
    ·
     skip
     have hin' : (i : Int) < (n1 : Int):=by omega
     have hi0 : (0 : Int) ≤ (i : Int):=by omega
     obtain ⟨b1,o1,ea1,c0,c1,c2,c3,c4⟩:=(HA.out.kept HB.out).all (i:=i) (by rw [HNA.out]; exact hin)
     obtain ⟨b2,o2,ea2,d0,d1,d2,d3,d4⟩:=(HA'.out.kept HB.out).all (i:=i) (by rw [HNB.out]; exact hin)
     have HNX:=hidIt (fun (q : En.rat r.1 i = En.rat r'.1 i) j (hj : j < i + 1)=>show En.rat r.1 j = En.rat r'.1 j by
      rcases Nat.lt_succ_iff_lt_or_eq.1 hj with z | z
      ·
       exact HQ.out j z
      ·
       rw [z]; exact q)
     have HNO : Hid (∀ k,k < n1 → ¬ (En.rat r.1 i = En.rat r'.1 i) → dec = false):=hidIt (fun k _ q=>HNO0.out (fun z=>q (by rw [z])))
     generalize En.rat r.1 i = x at c0 c1 c2 c3 c4 HNX HNO
     generalize En.rat r'.1 i = y at d0 d1 d2 d3 d4 HNX HNO
     obtain ⟨x0,x1,x2,x3,x4⟩:=x
     obtain ⟨y0,y1,y2,y3,y4⟩:=y
     simp only at c0 c1 c2 c3 c4 d0 d1 d2 d3 d4
     have HNE0 : Hid ((x0,x1,x2,x3,x4) = (y0,y1,y2,y3,y4) → x0 = y0):=hidIt (fun z=>congrArg (fun u : En.Rw=>u.1) z)
     have HNE1 : Hid ((x0,x1,x2,x3,x4) = (y0,y1,y2,y3,y4) → x1 = y1):=hidIt (fun z=>congrArg (fun u : En.Rw=>u.2.1) z)
     have HNE2 : Hid ((x0,x1,x2,x3,x4) = (y0,y1,y2,y3,y4) → x2 = y2):=hidIt (fun z=>congrArg (fun u : En.Rw=>u.2.2.1) z)
     have HNE3 : Hid ((x0,x1,x2,x3,x4) = (y0,y1,y2,y3,y4) → x3 = y3):=hidIt (fun z=>congrArg (fun u : En.Rw=>u.2.2.2.1) z)
     have HNE4 : Hid ((x0,x1,x2,x3,x4) = (y0,y1,y2,y3,y4) → x4 = y4):=hidIt (fun z=>congrArg (fun u : En.Rw=>u.2.2.2.2) z)
     have HXY : Hid ((x0,x1,x2,x3,x4) = (y0,y1,y2,y3,y4) → (x0,x1,x2,x3,x4) = (y0,y1,y2,y3,y4)):=hidIt (fun z=>z)
     subst ea1 ea2
     have a0:=BA.out.c 0 (v:=.slice (some ⟨b1,o1,none⟩) n1 s2) rfl
     have a1:=BB.out.c 0 (v:=.slice (some ⟨b2,o2,none⟩) n1 p2) rfl
     haveI:=BelowBy.one wr
     have fa:=fun p : BelowBy wr=>p.cell a0
     have fb:=fun p : BelowBy wr=>p.cell a1
     have fx0:=fun p : BelowBy wr=>p.cell c0
     have fy0:=fun p : BelowBy wr=>p.cell d0
     have fx1:=fun p : BelowBy wr=>p.cell c1
     have fy1:=fun p : BelowBy wr=>p.cell d1
     have fx2:=fun p : BelowBy wr=>p.cell c2
     have fy2:=fun p : BelowBy wr=>p.cell d2
     have fx3:=fun p : BelowBy wr=>p.cell c3
     have fy3:=fun p : BelowBy wr=>p.cell d3
     have fx4:=fun p : BelowBy wr=>p.cell c4
     have fy4:=fun p : BelowBy wr=>p.cell d4
     clear a0 a1 c0 c1 c2 c3 c4 d0 d1 d2 d3 d4
     by_cases h0 : x0 = y0
     ·
      subst h0
      have e0:=En.eq_of x0 x0
      rw [decide_eq_true rfl] at e0
      by_cases h1 : x1 = y1
      ·
       subst h1
       have e1:=En.eq_of x1 x1
       rw [decide_eq_true rfl] at e1
       by_cases h2 : x2 = y2
       ·
        subst h2
        have e2 : (x2 == x2) = true:=by simp
        by_cases h3 : x3 = y3
        ·
         subst h3
         have e3 : (x3 == x3) = true:=by simp
         by_cases h4 : x4 = y4
         ·
          subst h4
          have e4 : (x4 == x4) = true:=by simp
          go_wp2_with (fail)
          refine wp_region_below (by kernel_rfl) (by kernel_rfl) ?_
          repeat (go_big_quiet_step (fail))
          refine wpQuiet_nil ?_
          intro _ hw'
          obtain ⟨pq,rfl⟩:=hw'
          have HB1:=hidIt (on HB.out pq.h)
          have BA1:=hidIt (BA.out.kept pq.h)
          have BB1:=hidIt (BB.out.kept pq.h)
          generalize pq.world = w2 at HB1 BA1 BB1 ⊢
          clear fx0 fx1 fx2 fx3 fx4 fy0 fy1 fy2 fy3 fy4 fa fb
          go_wp2_with (fail)
          exact ⟨⟨i + 1,by simp,by omega,(by first | exact hidIt (HNX.out rfl) | exact hidIt (HNX.out trivial) | exact hidIt HNX.out),BA1,BB1,HB1⟩,by simp [intOf]; omega⟩
         ·
          have e4 : (x4 == y4) = false:=by simpa using h4
          have er:=HNO.out i hin (fun z=>h4 (HNE4.out z))
          subst er
          go_wp2_with (fail)
          refine wp_region_below (by kernel_rfl) (by kernel_rfl) ?_
          repeat (go_big_quiet_step (fail))
          refine wpQuiet_nil ?_
          intro _ hw'
          obtain ⟨pq,rfl⟩:=hw'
          have HB1:=hidIt (on HB.out pq.h)
          have BA1:=hidIt (BA.out.kept pq.h)
          have BB1:=hidIt (BB.out.kept pq.h)
          generalize pq.world = w2 at HB1 BA1 BB1 ⊢
          clear fx0 fx1 fx2 fx3 fx4 fy0 fy1 fy2 fy3 fy4 fa fb
          go_wp2_with (fail)
          go_ret
          exact ⟨rfl,HB1.out⟩
        ·
         have e3 : (x3 == y3) = false:=by simpa using h3
         have er:=HNO.out i hin (fun z=>h3 (HNE3.out z))
         subst er
         go_wp2_with (fail)
         refine wp_region_below (by kernel_rfl) (by kernel_rfl) ?_
         repeat (go_big_quiet_step (fail))
         refine wpQuiet_nil ?_
         intro _ hw'
         obtain ⟨pq,rfl⟩:=hw'
         have HB1:=hidIt (on HB.out pq.h)
         have BA1:=hidIt (BA.out.kept pq.h)
         have BB1:=hidIt (BB.out.kept pq.h)
         generalize pq.world = w2 at HB1 BA1 BB1 ⊢
         clear fx0 fx1 fx2 fx3 fx4 fy0 fy1 fy2 fy3 fy4 fa fb
         go_wp2_with (fail)
         go_ret
         exact ⟨rfl,HB1.out⟩
       ·
        have e2 : (x2 == y2) = false:=by simpa using h2
        have er:=HNO.out i hin (fun z=>h2 (HNE2.out z))
        subst er
        go_wp2_with (fail)
        refine wp_region_below (by kernel_rfl) (by kernel_rfl) ?_
        repeat (go_big_quiet_step (fail))
        refine wpQuiet_nil ?_
        intro _ hw'
        obtain ⟨pq,rfl⟩:=hw'
        have HB1:=hidIt (on HB.out pq.h)
        have BA1:=hidIt (BA.out.kept pq.h)
        have BB1:=hidIt (BB.out.kept pq.h)
        generalize pq.world = w2 at HB1 BA1 BB1 ⊢
        clear fx0 fx1 fx2 fx3 fx4 fy0 fy1 fy2 fy3 fy4 fa fb
        go_wp2_with (fail)
        go_ret
        exact ⟨rfl,HB1.out⟩
      ·
       have e1:=En.eq_of x1 y1
       rw [decide_eq_false (fun z=>h1 (En.bs_inj z))] at e1
       have er:=HNO.out i hin (fun z=>h1 (HNE1.out z))
       subst er
       go_wp2_with (fail)
       refine wp_region_below (by kernel_rfl) (by kernel_rfl) ?_
       repeat (go_big_quiet_step (fail))
       refine wpQuiet_nil ?_
       intro _ hw'
       obtain ⟨pq,rfl⟩:=hw'
       have HB1:=hidIt (on HB.out pq.h)
       have BA1:=hidIt (BA.out.kept pq.h)
       have BB1:=hidIt (BB.out.kept pq.h)
       generalize pq.world = w2 at HB1 BA1 BB1 ⊢
       clear fx0 fx1 fx2 fx3 fx4 fy0 fy1 fy2 fy3 fy4 fa fb
       go_wp2_with (fail)
       go_ret
       exact ⟨rfl,HB1.out⟩
     ·
      have e0:=En.eq_of x0 y0
      rw [decide_eq_false (fun z=>h0 (En.bs_inj z))] at e0
      have er:=HNO.out i hin (fun z=>h0 (HNE0.out z))
      subst er
      go_wp2_with (fail)
      refine wp_region_below (by kernel_rfl) (by kernel_rfl) ?_
      repeat (go_big_quiet_step (fail))
      refine wpQuiet_nil ?_
      intro _ hw'
      obtain ⟨pq,rfl⟩:=hw'
      have HB1:=hidIt (on HB.out pq.h)
      have BA1:=hidIt (BA.out.kept pq.h)
      have BB1:=hidIt (BB.out.kept pq.h)
      generalize pq.world = w2 at HB1 BA1 BB1 ⊢
      clear fx0 fx1 fx2 fx3 fx4 fy0 fy1 fy2 fy3 fy4 fa fb
      go_wp2_with (fail)
      go_ret
      exact ⟨rfl,HB1.out⟩
    ·
     have hin' : ¬ (i : Int) < (n1 : Int):=by omega
     obtain rfl : i = n1:=by omega
     have HQ1:=HQ
     go_wp2_with (fail)
     go_loopw [6] (fun y wx=>∃ k : Nat,y = .int .i64 k ∧ k ≤ n2 ∧ Hid (∀ j,j < k → Mm.rat r.2 j = Mm.rat r'.2 j) ∧ Hid (Bo.Box wx w.heap.size #[.slice s0 i s2,.slice t0 n2 t2]) ∧ Hid (Bo.Box wx (w.heap.size + 1) #[.slice p0 i p2,.slice q0 n2 q2]) ∧ Hid (Below w.heap.size w wx)) (fun y _=>(n2 - intOf y).toNat)
     case atStart=>exact ⟨0,rfl,by omega,hidIt (fun j hj=>by omega),BA,BB,HB⟩
     case round =>
      clear BA BB HB HQ aL HA HA' HNA HNB hin hin' hi
      generalize i = m1 at *
      obtain ⟨i,rfl,hi,HQ,BA,BB,HB⟩:=hrel
      have aL:=BA.out.c 1 (v:=.slice t0 n2 t2) rfl
      have HA:=H2
      have HA':=H4
      have HNA:=L2
      have HNB:=L4
      by_cases hin : i < n2
      ·
       skip
       have hin' : (i : Int) < (n2 : Int):=by omega
       have hi0 : (0 : Int) ≤ (i : Int):=by omega
       obtain ⟨b1,o1,ea1,c0,c1,c2⟩:=(HA.out.kept HB.out).all (i:=i) (by rw [HNA.out]; exact hin)
       obtain ⟨b2,o2,ea2,d0,d1,d2⟩:=(HA'.out.kept HB.out).all (i:=i) (by rw [HNB.out]; exact hin)
       have HNX:=hidIt (fun (q : Mm.rat r.2 i = Mm.rat r'.2 i) j (hj : j < i + 1)=>show Mm.rat r.2 j = Mm.rat r'.2 j by
        rcases Nat.lt_succ_iff_lt_or_eq.1 hj with z | z
        ·
         exact HQ.out j z
        ·
         rw [z]; exact q)
       have HNO : Hid (∀ k,k < n2 → ¬ (Mm.rat r.2 i = Mm.rat r'.2 i) → dec = false):=hidIt (fun k _ q=>HNO0.out (fun z=>q (by rw [z])))
       generalize Mm.rat r.2 i = x at c0 c1 c2 HNX HNO
       generalize Mm.rat r'.2 i = y at d0 d1 d2 HNX HNO
       obtain ⟨x0,x1,x2⟩:=x
       obtain ⟨y0,y1,y2⟩:=y
       simp only at c0 c1 c2 d0 d1 d2
       have HNE0 : Hid ((x0,x1,x2) = (y0,y1,y2) → x0 = y0):=hidIt (fun z=>congrArg (fun u : Mm.Rw=>u.1) z)
       have HNE1 : Hid ((x0,x1,x2) = (y0,y1,y2) → x1 = y1):=hidIt (fun z=>congrArg (fun u : Mm.Rw=>u.2.1) z)
       have HNE2 : Hid ((x0,x1,x2) = (y0,y1,y2) → x2 = y2):=hidIt (fun z=>congrArg (fun u : Mm.Rw=>u.2.2) z)
       have HXY : Hid ((x0,x1,x2) = (y0,y1,y2) → (x0,x1,x2) = (y0,y1,y2)):=hidIt (fun z=>z)
       subst ea1 ea2
       have a0:=BA.out.c 1 (v:=.slice (some ⟨b1,o1,none⟩) n2 t2) rfl
       have a1:=BB.out.c 1 (v:=.slice (some ⟨b2,o2,none⟩) n2 q2) rfl
       haveI:=BelowBy.one wr
       have fa:=fun p : BelowBy wr=>p.cell a0
       have fb:=fun p : BelowBy wr=>p.cell a1
       have fx0:=fun p : BelowBy wr=>p.cell c0
       have fy0:=fun p : BelowBy wr=>p.cell d0
       have fx1:=fun p : BelowBy wr=>p.cell c1
       have fy1:=fun p : BelowBy wr=>p.cell d1
       have fx2:=fun p : BelowBy wr=>p.cell c2
       have fy2:=fun p : BelowBy wr=>p.cell d2
       clear a0 a1 c0 c1 c2 d0 d1 d2
       by_cases h0 : x0 = y0
       ·
        subst h0
        have e0 : (x0 == x0) = true:=by simp
        by_cases h1 : x1 = y1
        ·
         subst h1
         have e1 : (x1 == x1) = true:=by simp
         by_cases h2 : x2 = y2
         ·
          subst h2
          have e2 : (x2 == x2) = true:=by simp
          go_wp2_with (fail)
          refine wp_region_below (by kernel_rfl) (by kernel_rfl) ?_
          repeat (go_big_quiet_step (fail))
          refine wpQuiet_nil ?_
          intro _ hw'
          obtain ⟨pq,rfl⟩:=hw'
          have HB1:=hidIt (on HB.out pq.h)
          have BA1:=hidIt (BA.out.kept pq.h)
          have BB1:=hidIt (BB.out.kept pq.h)
          generalize pq.world = w2 at HB1 BA1 BB1 ⊢
          clear fx0 fx1 fx2 fy0 fy1 fy2 fa fb
          go_wp2_with (fail)
          exact ⟨⟨i + 1,by simp,by omega,(by first | exact hidIt (HNX.out rfl) | exact hidIt (HNX.out trivial) | exact hidIt HNX.out),BA1,BB1,HB1⟩,by simp [intOf]; omega⟩
         ·
          have e2 : (x2 == y2) = false:=by simpa using h2
          have er:=HNO.out i hin (fun z=>h2 (HNE2.out z))
          subst er
          go_wp2_with (fail)
          refine wp_region_below (by kernel_rfl) (by kernel_rfl) ?_
          repeat (go_big_quiet_step (fail))
          refine wpQuiet_nil ?_
          intro _ hw'
          obtain ⟨pq,rfl⟩:=hw'
          have HB1:=hidIt (on HB.out pq.h)
          have BA1:=hidIt (BA.out.kept pq.h)
          have BB1:=hidIt (BB.out.kept pq.h)
          generalize pq.world = w2 at HB1 BA1 BB1 ⊢
          clear fx0 fx1 fx2 fy0 fy1 fy2 fa fb
          go_wp2_with (fail)
          go_ret
          exact ⟨rfl,HB1.out⟩
        ·
         have e1 : (x1 == y1) = false:=by simpa using h1
         have er:=HNO.out i hin (fun z=>h1 (HNE1.out z))
         subst er
         go_wp2_with (fail)
         refine wp_region_below (by kernel_rfl) (by kernel_rfl) ?_
         repeat (go_big_quiet_step (fail))
         refine wpQuiet_nil ?_
         intro _ hw'
         obtain ⟨pq,rfl⟩:=hw'
         have HB1:=hidIt (on HB.out pq.h)
         have BA1:=hidIt (BA.out.kept pq.h)
         have BB1:=hidIt (BB.out.kept pq.h)
         generalize pq.world = w2 at HB1 BA1 BB1 ⊢
         clear fx0 fx1 fx2 fy0 fy1 fy2 fa fb
         go_wp2_with (fail)
         go_ret
         exact ⟨rfl,HB1.out⟩
       ·
        have e0 : (x0 == y0) = false:=by simpa using h0
        have er:=HNO.out i hin (fun z=>h0 (HNE0.out z))
        subst er
        go_wp2_with (fail)
        refine wp_region_below (by kernel_rfl) (by kernel_rfl) ?_
        repeat (go_big_quiet_step (fail))
        refine wpQuiet_nil ?_
        intro _ hw'
        obtain ⟨pq,rfl⟩:=hw'
        have HB1:=hidIt (on HB.out pq.h)
        have BA1:=hidIt (BA.out.kept pq.h)
        have BB1:=hidIt (BB.out.kept pq.h)
        generalize pq.world = w2 at HB1 BA1 BB1 ⊢
        clear fx0 fx1 fx2 fy0 fy1 fy2 fa fb
        go_wp2_with (fail)
        go_ret
        exact ⟨rfl,HB1.out⟩
      ·
       have hin' : ¬ (i : Int) < (n2 : Int):=by omega
       obtain rfl : i = n2:=by omega
       have er : dec = true:=by first | exact D4.out rfl rfl HQ1.out HQ.out | exact D4.out trivial trivial HQ1.out HQ.out | exact D4.out HQ1.out HQ.out
       subst er
       go_wp2_with (fail)
       go_ret
       exact ⟨rfl,HB.out⟩
  ·
   have er:=D2.out h2
   subst er
   subst h1
   have z1 : ((s1 : Int) != (s1 : Int)) = false:=by simp
   have z2 : ((t1 : Int) != (q1 : Int)) = true:=by simp; omega
   go_enter Tryz.func50,Tryz.ntmps50
   go_wp2
   go_ret
   exact ⟨rfl,HB0.out⟩
 ·
  have er:=D1.out h1
  subst er
  have z1 : ((s1 : Int) != (p1 : Int)) = true:=by simp; omega
  go_enter Tryz.func50,Tryz.ntmps50
  go_wp2
  go_ret
  exact ⟨rfl,HB0.out⟩
def agR (L : List Rep) : Bool:=okG L && L.all fun r=>decide (r = rat L 0)
theorem ag_no {L : List Rep} (h : okG L = false) : agR L = false:=by unfold agR; rw [h]; rfl
theorem ag_off {L : List Rep} {i : Nat} (hi : i < L.length) (h : ¬ rat L i = rat L 0) : agR L = false:=by
 unfold agR
 cases okG L with
 | false=>rfl
 | true =>
  rw [Bool.true_and]
  cases e : L.all fun r=>decide (r = rat L 0) with
  | false=>rfl
  | true =>
   rw [List.all_eq_true] at e
   exact absurd (of_decide_eq_true (e _ (rat_mem hi))) h
theorem ag_yes {L : List Rep} (h : okG L = true) (k : ∀ i,i < L.length → rat L i = rat L 0) : agR L = true:=by
 unfold agR
 rw [h,Bool.true_and,List.all_eq_true]
 intro r hr
 obtain ⟨i,hi,rfl⟩:=List.mem_iff_getElem.1 hr
 rw [← rat_at hi]
 exact decide_eq_true (k i hi)
theorem spec_Agreed (a : Option Addr) (cap : Nat) (L : List Rep) (w : World) (h : Rd w a L) (hs : Short L) (hl : L.length ≤ 9223372036854775807) (hlb : ∀ i,i < L.length → (rat L i).1.length ≤ 9223372036854775807 ∧ (rat L i).2.length ≤ 9223372036854775807) :
  Calls Tryz.prog 24 #[.slice a L.length cap] w fun e w'=>e = .returned (.bool (agR L)) ∧ Below w.heap.size w w':=by
 have CG:=hidIt (fun W (r : Rd W a L)=>spec_GroupOk a cap L W r hs hl hlb)
 have HR:=hidIt h
 clear h hs hlb
 cases ok : okG L with
 | false =>
  rw [ok] at CG
  rw [ag_no ok]
  clear ok
  generalize L.length = m at *
  go_enter Tryz.func24,Tryz.ntmps24
  go_wp2_with (fail)
  refine (CG.out _ HR.out).mono ?_
  rintro e w1 ⟨rfl,k⟩
  have HB1:=hidIt k
  clear k
  go_wp2_with (fail)
  go_ret
  exact ⟨rfl,HB1.out⟩
 | true =>
  rw [ok] at CG
  have h1:=(okG_all ok).1
  have N1:=hidIt (fun i (hi : i < L.length) (q : ¬ rat L i = rat L 0)=>ag_off hi q)
  have N2:=hidIt (fun (k : ∀ i,i < L.length → rat L i = rat L 0)=>ag_yes ok k)
  clear ok
  generalize agR L = dec at N1 N2 ⊢
  generalize hn : L.length = m at *
  have HN:=hidIt hn
  clear hn
  go_enter Tryz.func24,Tryz.ntmps24
  go_wp2_with (fail)
  refine (CG.out _ HR.out).mono ?_
  rintro e w1 ⟨rfl,k⟩
  have HB1:=hidIt k
  clear k
  go_wp2_with (fail)
  go_loopw [3] (fun y wx=>∃ i : Nat,y = .int .i64 i ∧ 1 ≤ i ∧ i ≤ m ∧ Hid (∀ j,j < i → rat L j = rat L 0) ∧ Hid (Below w.heap.size w wx)) (fun y _=>(m - intOf y).toNat)
  case atStart=>exact ⟨1,rfl,by omega,by omega,hidIt (fun j hj=>by rw [show j = 0 by omega]),HB1⟩
  case round =>
   obtain ⟨i,rfl,hi1,hi,HQ,HB⟩:=hrel
   clear HB1
   by_cases hin : i < m
   ·
    have hin' : (i : Int) < (m : Int):=by omega
    have hi0 : (0 : Int) ≤ (i : Int):=by omega
    have h0m : (0 : Int) < (m : Int):=by omega
    obtain ⟨b,off,s,t,ea,c0,c1,rE,rM⟩:=(HR.out.kept HB.out).one (i:=i) (by rw [HN.out]; exact hin)
    obtain ⟨b',off',s',t',ea',d0,d1,rE',rM'⟩:=(HR.out.kept HB.out).one (i:=0) (by rw [HN.out]; omega)
    subst ea
    cases ea'
    have CE:=hidIt (fun W (k : Below wr.heap.size wr W)=>spec_l13Like s t s' t' (rat L i) (rat L 0) W (rE.kept k) (rM.kept k) (rE'.kept k) (rM'.kept k))
    clear rE rM rE' rM'
    obtain ⟨s0,s1,s2⟩:=s
    obtain ⟨t0,t1,t2⟩:=t
    obtain ⟨p0,p1,p2⟩:=s'
    obtain ⟨q0,q1,q2⟩:=t'
    simp only [sv,Nat.zero_mul,Nat.add_zero] at c0 c1 d0 d1 CE
    haveI:=BelowBy.one wr
    have f0:=fun p : BelowBy wr=>p.cell c0
    have f1:=fun p : BelowBy wr=>p.cell c1
    have g0:=fun p : BelowBy wr=>p.cell d0
    have g1:=fun p : BelowBy wr=>p.cell d1
    clear c0 c1 d0 d1
    obtain ⟨dd,hdd⟩ : ∃ dd,decide (rat L i = rat L 0) = dd:=⟨_,rfl⟩
    rw [hdd] at CE
    have HDD:=hidIt hdd
    clear hdd
    go_wp2_with (fail)
    refine wp_region_below (by kernel_rfl) (by kernel_rfl) ?_
    repeat (go_big_quiet_step (first | (go_at_call 50; refine calls_below (CE.out _ (BelowBy.h _)))))
    refine wpQuiet_nil ?_
    intro _ hw'
    obtain ⟨pq,rfl⟩:=hw'
    have HB2:=hidIt (on HB.out pq.h)
    generalize pq.world = w2 at HB2 ⊢
    clear f0 f1 g0 g1
    cases dd with
    | true =>
     go_wp2_with (fail)
     refine ⟨⟨i + 1,by simp,by omega,by omega,hidIt (fun j hj=>?_),HB2⟩,by simp [intOf]; omega⟩
     rcases Nat.lt_succ_iff_lt_or_eq.1 hj with z | z
     ·
      exact HQ.out j z
     ·
      rw [z]; exact of_decide_eq_true HDD.out
    | false =>
     have er:=N1.out i hin (of_decide_eq_false HDD.out)
     subst er
     go_wp2_with (fail)
     go_ret
     exact ⟨rfl,HB2.out⟩
   ·
    have hin' : ¬ (i : Int) < (m : Int):=by omega
    obtain rfl : i = m:=by omega
    have er:=N2.out HQ.out
    subst er
    go_wp2_with (fail)
    go_ret
    exact ⟨rfl,HB.out⟩
end Go.Proofs.YtkeapmmochpcfaaGreat.Rp
namespace Go.Proofs.YtkeapmmochpcfaaGreat.Rp
open Go.ChangeShapes Go.WideShapes Go.ChangeAt Go.RowKit
open Vv (Sl sv hidIt)
open Rc (BelowBy BelowBy.one wp_region_below calls_below calls_same)
theorem equal_E (a a' : Option Addr) (ca cb : Nat) (A B : List En.Rw) (w : World) (hA : En.Rd w a A) (hB : En.Rd w a' B) (hl : A.length ≤ 9223372036854775807) (hl' : B.length ≤ 9223372036854775807) :
  Calls Tryz.prog 74 #[.slice a A.length ca,.slice a' B.length cb] w fun e w'=>e = .returned (.bool (decide (A = B))) ∧ Below w.heap.size w w':=by
 have D1 : Hid (A.length ≠ B.length → decide (A = B) = false):=hidIt (fun q=>decide_eq_false (fun z=>q (by rw [z])))
 have D3 : Hid (¬ A = B → decide (A = B) = false):=hidIt (fun q=>decide_eq_false q)
 have D4 : Hid (A.length = B.length → (∀ j,j < A.length → En.rat A j = En.rat B j) → decide (A = B) = true):=hidIt (fun h1 h3=>decide_eq_true (En.ext_rat h1 h3))
 generalize decide (A = B) = dec at D1 D3 D4 ⊢
 have HA:=hidIt hA
 have HA':=hidIt hB
 clear hA hB
 generalize hn : A.length = n at *
 have HNA:=hidIt hn
 clear hn
 generalize hn : B.length = n' at *
 have HNB:=hidIt hn
 clear hn
 by_cases hnn : n = n'
 ·
  subst hnn
  have hq : ((n : Int) == (n : Int)) = true:=by simp
  go_enter Tryz.func74,Tryz.ntmps74
  go_wp2_with (fail)
  go_loopw [13] (fun y wx=>∃ i : Nat,y = .int .i64 i ∧ i ≤ n ∧ Hid (∀ j,j < i → En.rat A j = En.rat B j) ∧ Hid (Below w.heap.size w wx)) (fun y _=>(n - intOf y).toNat)
  case atStart=>exact ⟨0,rfl,by omega,hidIt (fun j hj=>by omega),hidIt (Below.refl _ _)⟩
  case round =>
   obtain ⟨i,rfl,hi,HQ,HB⟩:=hrel
   by_cases hin : i < n
   ·
    have hin' : (i : Int) < (n : Int):=by omega
    have hi0 : (0 : Int) ≤ (i : Int):=by omega
    obtain ⟨b1,o1,ea1,c0,c1,c2,c3,c4⟩:=(HA.out.kept HB.out).all (i:=i) (by rw [HNA.out]; exact hin)
    obtain ⟨b2,o2,ea2,d0,d1,d2,d3,d4⟩:=(HA'.out.kept HB.out).all (i:=i) (by rw [HNB.out]; exact hin)
    have HNX:=hidIt (fun (q : En.rat A i = En.rat B i) j (hj : j < i + 1)=>show En.rat A j = En.rat B j by
     rcases Nat.lt_succ_iff_lt_or_eq.1 hj with z | z
     ·
      exact HQ.out j z
     ·
      rw [z]; exact q)
    have HNO : Hid (¬ (En.rat A i = En.rat B i) → dec = false):=hidIt (fun q=>D3.out (fun z=>q (by rw [z])))
    generalize En.rat A i = x at c0 c1 c2 c3 c4 HNX HNO
    generalize En.rat B i = y at d0 d1 d2 d3 d4 HNX HNO
    obtain ⟨x0,x1,x2,x3,x4⟩:=x
    obtain ⟨y0,y1,y2,y3,y4⟩:=y
    simp only at c0 c1 c2 c3 c4 d0 d1 d2 d3 d4
    have HNE0 : Hid ((x0,x1,x2,x3,x4) = (y0,y1,y2,y3,y4) → x0 = y0):=hidIt (fun z=>congrArg (fun u : En.Rw=>u.1) z)
    have HNE1 : Hid ((x0,x1,x2,x3,x4) = (y0,y1,y2,y3,y4) → x1 = y1):=hidIt (fun z=>congrArg (fun u : En.Rw=>u.2.1) z)
    have HNE2 : Hid ((x0,x1,x2,x3,x4) = (y0,y1,y2,y3,y4) → x2 = y2):=hidIt (fun z=>congrArg (fun u : En.Rw=>u.2.2.1) z)
    have HNE3 : Hid ((x0,x1,x2,x3,x4) = (y0,y1,y2,y3,y4) → x3 = y3):=hidIt (fun z=>congrArg (fun u : En.Rw=>u.2.2.2.1) z)
    have HNE4 : Hid ((x0,x1,x2,x3,x4) = (y0,y1,y2,y3,y4) → x4 = y4):=hidIt (fun z=>congrArg (fun u : En.Rw=>u.2.2.2.2) z)
    subst ea1 ea2
    haveI:=BelowBy.one wr
    have fx0:=fun p : BelowBy wr=>p.cell c0
    have fy0:=fun p : BelowBy wr=>p.cell d0
    have fx1:=fun p : BelowBy wr=>p.cell c1
    have fy1:=fun p : BelowBy wr=>p.cell d1
    have fx2:=fun p : BelowBy wr=>p.cell c2
    have fy2:=fun p : BelowBy wr=>p.cell d2
    have fx3:=fun p : BelowBy wr=>p.cell c3
    have fy3:=fun p : BelowBy wr=>p.cell d3
    have fx4:=fun p : BelowBy wr=>p.cell c4
    have fy4:=fun p : BelowBy wr=>p.cell d4
    clear c0 c1 c2 c3 c4 d0 d1 d2 d3 d4
    by_cases h0 : x0 = y0
    ·
     subst h0
     have e0:=En.eq_of x0 x0
     rw [decide_eq_true rfl] at e0
     by_cases h1 : x1 = y1
     ·
      subst h1
      have e1:=En.eq_of x1 x1
      rw [decide_eq_true rfl] at e1
      by_cases h2 : x2 = y2
      ·
       subst h2
       have e2 : (x2 == x2) = true:=by simp
       by_cases h3 : x3 = y3
       ·
        subst h3
        have e3 : (x3 == x3) = true:=by simp
        by_cases h4 : x4 = y4
        ·
         subst h4
         have e4 : (x4 == x4) = true:=by simp
         go_wp2_with (fail)
         refine wp_region_below (by kernel_rfl) (by kernel_rfl) ?_
         repeat (go_big_quiet_step (fail))
         refine wpQuiet_nil ?_
         intro _ hw'
         obtain ⟨pq,rfl⟩:=hw'
         have HB1:=hidIt (on HB.out pq.h)
         generalize pq.world = w2 at HB1 ⊢
         clear fx0 fx1 fx2 fx3 fx4 fy0 fy1 fy2 fy3 fy4
         go_wp2_with (fail)
         exact ⟨⟨i + 1,by simp,by omega,(by first | exact hidIt (HNX.out rfl) | exact hidIt (HNX.out trivial) | exact hidIt HNX.out),HB1⟩,by simp [intOf]; omega⟩
        ·
         have e4 : (x4 == y4) = false:=by simpa using h4
         have er:=HNO.out (fun z=>h4 (HNE4.out z))
         subst er
         go_wp2_with (fail)
         refine wp_region_below (by kernel_rfl) (by kernel_rfl) ?_
         repeat (go_big_quiet_step (fail))
         refine wpQuiet_nil ?_
         intro _ hw'
         obtain ⟨pq,rfl⟩:=hw'
         have HB1:=hidIt (on HB.out pq.h)
         generalize pq.world = w2 at HB1 ⊢
         clear fx0 fx1 fx2 fx3 fx4 fy0 fy1 fy2 fy3 fy4
         go_wp2_with (fail)
         go_ret
         exact ⟨rfl,HB1.out⟩
       ·
        have e3 : (x3 == y3) = false:=by simpa using h3
        have er:=HNO.out (fun z=>h3 (HNE3.out z))
        subst er
        go_wp2_with (fail)
        refine wp_region_below (by kernel_rfl) (by kernel_rfl) ?_
        repeat (go_big_quiet_step (fail))
        refine wpQuiet_nil ?_
        intro _ hw'
        obtain ⟨pq,rfl⟩:=hw'
        have HB1:=hidIt (on HB.out pq.h)
        generalize pq.world = w2 at HB1 ⊢
        clear fx0 fx1 fx2 fx3 fx4 fy0 fy1 fy2 fy3 fy4
        go_wp2_with (fail)
        go_ret
        exact ⟨rfl,HB1.out⟩
      ·
       have e2 : (x2 == y2) = false:=by simpa using h2
       have er:=HNO.out (fun z=>h2 (HNE2.out z))
       subst er
       go_wp2_with (fail)
       refine wp_region_below (by kernel_rfl) (by kernel_rfl) ?_
       repeat (go_big_quiet_step (fail))
       refine wpQuiet_nil ?_
       intro _ hw'
       obtain ⟨pq,rfl⟩:=hw'
       have HB1:=hidIt (on HB.out pq.h)
       generalize pq.world = w2 at HB1 ⊢
       clear fx0 fx1 fx2 fx3 fx4 fy0 fy1 fy2 fy3 fy4
       go_wp2_with (fail)
       go_ret
       exact ⟨rfl,HB1.out⟩
     ·
      have e1:=En.eq_of x1 y1
      rw [decide_eq_false (fun z=>h1 (En.bs_inj z))] at e1
      have er:=HNO.out (fun z=>h1 (HNE1.out z))
      subst er
      go_wp2_with (fail)
      refine wp_region_below (by kernel_rfl) (by kernel_rfl) ?_
      repeat (go_big_quiet_step (fail))
      refine wpQuiet_nil ?_
      intro _ hw'
      obtain ⟨pq,rfl⟩:=hw'
      have HB1:=hidIt (on HB.out pq.h)
      generalize pq.world = w2 at HB1 ⊢
      clear fx0 fx1 fx2 fx3 fx4 fy0 fy1 fy2 fy3 fy4
      go_wp2_with (fail)
      go_ret
      exact ⟨rfl,HB1.out⟩
    ·
     have e0:=En.eq_of x0 y0
     rw [decide_eq_false (fun z=>h0 (En.bs_inj z))] at e0
     have er:=HNO.out (fun z=>h0 (HNE0.out z))
     subst er
     go_wp2_with (fail)
     refine wp_region_below (by kernel_rfl) (by kernel_rfl) ?_
     repeat (go_big_quiet_step (fail))
     refine wpQuiet_nil ?_
     intro _ hw'
     obtain ⟨pq,rfl⟩:=hw'
     have HB1:=hidIt (on HB.out pq.h)
     generalize pq.world = w2 at HB1 ⊢
     clear fx0 fx1 fx2 fx3 fx4 fy0 fy1 fy2 fy3 fy4
     go_wp2_with (fail)
     go_ret
     exact ⟨rfl,HB1.out⟩
   ·
    have hin' : ¬ (i : Int) < (n : Int):=by omega
    obtain rfl : i = n:=by omega
    have er:=D4.out (by first | rfl | trivial | (rw [HNA.out,HNB.out])) (fun j hj=>HQ.out j (by first | exact hj | omega))
    subst er
    go_wp2_with (fail)
    go_ret
    exact ⟨rfl,HB.out⟩
 ·
  have er:=D1.out hnn
  subst er
  have hq : ((n : Int) == (n' : Int)) = false:=by simp; omega
  have hq2 : ¬ ((n : Int) = (n' : Int)):=by omega
  go_enter Tryz.func74,Tryz.ntmps74
  go_wp2
  go_ret
  exact ⟨rfl,Below.refl _ _⟩
theorem equal_M (a a' : Option Addr) (ca cb : Nat) (A B : List Mm.Rw) (w : World) (hA : Mm.Rd w a A) (hB : Mm.Rd w a' B) (hl : A.length ≤ 9223372036854775807) (hl' : B.length ≤ 9223372036854775807) :
  Calls Tryz.prog 75 #[.slice a A.length ca,.slice a' B.length cb] w fun e w'=>e = .returned (.bool (decide (A = B))) ∧ Below w.heap.size w w':=by
 have D1 : Hid (A.length ≠ B.length → decide (A = B) = false):=hidIt (fun q=>decide_eq_false (fun z=>q (by rw [z])))
 have D3 : Hid (¬ A = B → decide (A = B) = false):=hidIt (fun q=>decide_eq_false q)
 have D4 : Hid (A.length = B.length → (∀ j,j < A.length → Mm.rat A j = Mm.rat B j) → decide (A = B) = true):=hidIt (fun h1 h3=>decide_eq_true (Mm.ext_rat h1 h3))
 generalize decide (A = B) = dec at D1 D3 D4 ⊢
 have HA:=hidIt hA
 have HA':=hidIt hB
 clear hA hB
 generalize hn : A.length = n at *
 have HNA:=hidIt hn
 clear hn
 generalize hn : B.length = n' at *
 have HNB:=hidIt hn
 clear hn
 by_cases hnn : n = n'
 ·
  subst hnn
  have hq : ((n : Int) == (n : Int)) = true:=by simp
  go_enter Tryz.func75,Tryz.ntmps75
  go_wp2_with (fail)
  go_loopw [13] (fun y wx=>∃ i : Nat,y = .int .i64 i ∧ i ≤ n ∧ Hid (∀ j,j < i → Mm.rat A j = Mm.rat B j) ∧ Hid (Below w.heap.size w wx)) (fun y _=>(n - intOf y).toNat)
  case atStart=>exact ⟨0,rfl,by omega,hidIt (fun j hj=>by omega),hidIt (Below.refl _ _)⟩
  case round =>
   obtain ⟨i,rfl,hi,HQ,HB⟩:=hrel
   by_cases hin : i < n
   ·
    have hin' : (i : Int) < (n : Int):=by omega
    have hi0 : (0 : Int) ≤ (i : Int):=by omega
    obtain ⟨b1,o1,ea1,c0,c1,c2⟩:=(HA.out.kept HB.out).all (i:=i) (by rw [HNA.out]; exact hin)
    obtain ⟨b2,o2,ea2,d0,d1,d2⟩:=(HA'.out.kept HB.out).all (i:=i) (by rw [HNB.out]; exact hin)
    have HNX:=hidIt (fun (q : Mm.rat A i = Mm.rat B i) j (hj : j < i + 1)=>show Mm.rat A j = Mm.rat B j by
     rcases Nat.lt_succ_iff_lt_or_eq.1 hj with z | z
     ·
      exact HQ.out j z
     ·
      rw [z]; exact q)
    have HNO : Hid (¬ (Mm.rat A i = Mm.rat B i) → dec = false):=hidIt (fun q=>D3.out (fun z=>q (by rw [z])))
    generalize Mm.rat A i = x at c0 c1 c2 HNX HNO
    generalize Mm.rat B i = y at d0 d1 d2 HNX HNO
    obtain ⟨x0,x1,x2⟩:=x
    obtain ⟨y0,y1,y2⟩:=y
    simp only at c0 c1 c2 d0 d1 d2
    have HNE0 : Hid ((x0,x1,x2) = (y0,y1,y2) → x0 = y0):=hidIt (fun z=>congrArg (fun u : Mm.Rw=>u.1) z)
    have HNE1 : Hid ((x0,x1,x2) = (y0,y1,y2) → x1 = y1):=hidIt (fun z=>congrArg (fun u : Mm.Rw=>u.2.1) z)
    have HNE2 : Hid ((x0,x1,x2) = (y0,y1,y2) → x2 = y2):=hidIt (fun z=>congrArg (fun u : Mm.Rw=>u.2.2) z)
    subst ea1 ea2
    haveI:=BelowBy.one wr
    have fx0:=fun p : BelowBy wr=>p.cell c0
    have fy0:=fun p : BelowBy wr=>p.cell d0
    have fx1:=fun p : BelowBy wr=>p.cell c1
    have fy1:=fun p : BelowBy wr=>p.cell d1
    have fx2:=fun p : BelowBy wr=>p.cell c2
    have fy2:=fun p : BelowBy wr=>p.cell d2
    clear c0 c1 c2 d0 d1 d2
    by_cases h0 : x0 = y0
    ·
     subst h0
     have e0 : (x0 == x0) = true:=by simp
     by_cases h1 : x1 = y1
     ·
      subst h1
      have e1 : (x1 == x1) = true:=by simp
      by_cases h2 : x2 = y2
      ·
       subst h2
       have e2 : (x2 == x2) = true:=by simp
       go_wp2_with (fail)
       refine wp_region_below (by kernel_rfl) (by kernel_rfl) ?_
       repeat (go_big_quiet_step (fail))
       refine wpQuiet_nil ?_
       intro _ hw'
       obtain ⟨pq,rfl⟩:=hw'
       have HB1:=hidIt (on HB.out pq.h)
       generalize pq.world = w2 at HB1 ⊢
       clear fx0 fx1 fx2 fy0 fy1 fy2
       go_wp2_with (fail)
       exact ⟨⟨i + 1,by simp,by omega,(by first | exact hidIt (HNX.out rfl) | exact hidIt (HNX.out trivial) | exact hidIt HNX.out),HB1⟩,by simp [intOf]; omega⟩
      ·
       have e2 : (x2 == y2) = false:=by simpa using h2
       have er:=HNO.out (fun z=>h2 (HNE2.out z))
       subst er
       go_wp2_with (fail)
       refine wp_region_below (by kernel_rfl) (by kernel_rfl) ?_
       repeat (go_big_quiet_step (fail))
       refine wpQuiet_nil ?_
       intro _ hw'
       obtain ⟨pq,rfl⟩:=hw'
       have HB1:=hidIt (on HB.out pq.h)
       generalize pq.world = w2 at HB1 ⊢
       clear fx0 fx1 fx2 fy0 fy1 fy2
       go_wp2_with (fail)
       go_ret
       exact ⟨rfl,HB1.out⟩
     ·
      have e1 : (x1 == y1) = false:=by simpa using h1
      have er:=HNO.out (fun z=>h1 (HNE1.out z))
      subst er
      go_wp2_with (fail)
      refine wp_region_below (by kernel_rfl) (by kernel_rfl) ?_
      repeat (go_big_quiet_step (fail))
      refine wpQuiet_nil ?_
      intro _ hw'
      obtain ⟨pq,rfl⟩:=hw'
      have HB1:=hidIt (on HB.out pq.h)
      generalize pq.world = w2 at HB1 ⊢
      clear fx0 fx1 fx2 fy0 fy1 fy2
      go_wp2_with (fail)
      go_ret
      exact ⟨rfl,HB1.out⟩
    ·
     have e0 : (x0 == y0) = false:=by simpa using h0
     have er:=HNO.out (fun z=>h0 (HNE0.out z))
     subst er
     go_wp2_with (fail)
     refine wp_region_below (by kernel_rfl) (by kernel_rfl) ?_
     repeat (go_big_quiet_step (fail))
     refine wpQuiet_nil ?_
     intro _ hw'
     obtain ⟨pq,rfl⟩:=hw'
     have HB1:=hidIt (on HB.out pq.h)
     generalize pq.world = w2 at HB1 ⊢
     clear fx0 fx1 fx2 fy0 fy1 fy2
     go_wp2_with (fail)
     go_ret
     exact ⟨rfl,HB1.out⟩
   ·
    have hin' : ¬ (i : Int) < (n : Int):=by omega
    obtain rfl : i = n:=by omega
    have er:=D4.out (by first | rfl | trivial | (rw [HNA.out,HNB.out])) (fun j hj=>HQ.out j (by first | exact hj | omega))
    subst er
    go_wp2_with (fail)
    go_ret
    exact ⟨rfl,HB.out⟩
 ·
  have er:=D1.out hnn
  subst er
  have hq : ((n : Int) == (n' : Int)) = false:=by simp; omega
  have hq2 : ¬ ((n : Int) = (n' : Int)):=by omega
  go_enter Tryz.func75,Tryz.ntmps75
  go_wp2
  go_ret
  exact ⟨rfl,Below.refl _ _⟩
theorem impl_sameReplica (s t s' t' : Sl) (r r' : Rep) (w : World) (hE : RdE w s r.1) (hM : RdM w t r.2) (hE' : RdE w s' r'.1) (hM' : RdM w t' r'.2) :
  Calls Tryz.prog 49 #[.agg #[sv s,sv t],.agg #[sv s',sv t']] w fun e w'=>e = .returned (.bool (decide (r = r'))) ∧ Below w.heap.size w w':=by
 obtain ⟨s0,s1,s2⟩:=s
 obtain ⟨t0,t1,t2⟩:=t
 obtain ⟨p0,p1,p2⟩:=s'
 obtain ⟨q0,q1,q2⟩:=t'
 obtain ⟨e1,rE,_,lE,cE⟩:=hE
 obtain ⟨e2,rM,_,lM,cM⟩:=hM
 obtain ⟨e3,rE',_,lE',cE'⟩:=hE'
 obtain ⟨e4,rM',_,lM',cM'⟩:=hM'
 simp only at e1 rE lE cE e2 rM lM cM e3 rE' lE' cE' e4 rM' lM' cM'
 have C1:=hidIt (fun W (h : En.Rd W s0 r.1) (h' : En.Rd W p0 r'.1)=>equal_E s0 p0 s2 p2 r.1 r'.1 W h h' (by omega) (by omega))
 have C2:=hidIt (fun W (h : Mm.Rd W t0 r.2) (h' : Mm.Rd W q0 r'.2)=>equal_M t0 q0 t2 q2 r.2 r'.2 W h h' (by omega) (by omega))
 rw [← e1,← e3] at C1
 rw [← e2,← e4] at C2
 have HD : Hid (decide (r = r') = (decide (r.1 = r'.1) && decide (r.2 = r'.2))):=hidIt (by rw [← Bool.decide_and]; exact decide_eq_decide.2 Prod.ext_iff)
 generalize decide (r = r') = dec at HD ⊢
 generalize decide (r.1 = r'.1) = k1 at C1 HD
 generalize decide (r.2 = r'.2) = k2 at C2 HD
 have HB:=hidIt (((Below.refl w.heap.size w).alloc (Nat.le_refl _) (.cells #[.slice s0 s1 s2,.slice t0 t1 t2] 32)).alloc (by simp) (.cells #[.slice p0 p1 p2,.slice q0 q1 q2] 32))
 have BX:=hidIt (Bo.Box.kept (Bo.Box.new w #[.slice s0 s1 s2,.slice t0 t1 t2] 32) ((Below.refl _ _).alloc (Nat.le_refl _) (.cells #[.slice p0 p1 p2,.slice q0 q1 q2] 32)))
 have BY:=hidIt (Bo.Box.new (w.alloc (.cells #[.slice s0 s1 s2,.slice t0 t1 t2] 32)) #[.slice p0 p1 p2,.slice q0 q1 q2] 32)
 have H1:=hidIt (rE.kept HB.out)
 have H2:=hidIt (rM.kept HB.out)
 have H3:=hidIt (rE'.kept HB.out)
 have H4:=hidIt (rM'.kept HB.out)
 clear rE rM rE' rM' e1 e2 e3 e4
 simp only [sv]
 cases k1 with
 | false =>
  have er:=HD.out
  simp only [Bool.false_and] at er
  subst er
  go_enter Tryz.func49,Tryz.ntmps49
  go_wp2_with (fail)
  refine (C1.out _ H1.out H3.out).mono ?_
  rintro e w1 ⟨rfl,k⟩
  have HB1:=hidIt (on HB.out k)
  clear k
  go_wp2_with (fail)
  go_ret
  exact ⟨rfl,HB1.out⟩
 | true =>
  have er:=HD.out
  simp only [Bool.true_and] at er
  subst er
  go_enter Tryz.func49,Tryz.ntmps49
  go_wp2_with (fail)
  refine (C1.out _ H1.out H3.out).mono ?_
  rintro e w1 ⟨rfl,k1⟩
  have HB1:=hidIt (on HB.out k1)
  have c1:=(BX.out.kept k1).c 1 rfl
  have c2 : w1.cell? ⟨w.heap.size + 1,1,none⟩ = some (.slice q0 q1 q2):=by have z:=(BY.out.kept k1).c 1 rfl; simpa using z
  have H5:=hidIt (H2.out.kept k1)
  have H6:=hidIt (H4.out.kept k1)
  clear k1
  go_wp2_with (fail)
  refine (C2.out _ H5.out H6.out).mono ?_
  rintro e w2 ⟨rfl,k2⟩
  have HB2:=hidIt (on HB1.out k2)
  clear k2
  go_wp2_with (fail)
  go_ret
  exact ⟨rfl,HB2.out⟩
theorem impl_Agreed (a : Option Addr) (cap : Nat) (L : List Rep) (w : World) (h : Rd w a L) (hs : Short L) (hl : L.length ≤ 9223372036854775807) (hlb : ∀ i,i < L.length → (rat L i).1.length ≤ 9223372036854775807 ∧ (rat L i).2.length ≤ 9223372036854775807) (hle : L.length ≤ cap) :
  Calls Tryz.prog 23 #[.slice a L.length cap] w fun e w'=>e = .returned (.bool (agR L)) ∧ Below w.heap.size w w':=by
 have CG:=hidIt (fun W (r : Rd W a L)=>impl_GroupOk a cap L W r hs hl hlb)
 have HR:=hidIt h
 clear h hs hlb
 cases ok : okG L with
 | false =>
  rw [ok] at CG
  rw [ag_no ok]
  clear ok
  generalize L.length = m at *
  go_enter Tryz.func23,Tryz.ntmps23
  go_wp2_with (fail)
  refine (CG.out _ HR.out).mono ?_
  rintro e w1 ⟨rfl,k⟩
  have HB1:=hidIt k
  clear k
  go_wp2_with (fail)
  go_ret
  exact ⟨rfl,HB1.out⟩
 | true =>
  rw [ok] at CG
  have h1:=(okG_all ok).1
  have h6:=(okG_all ok).2.1
  have N1:=hidIt (fun i (hi : i < L.length) (q : ¬ rat L i = rat L 0)=>ag_off hi q)
  have N2:=hidIt (fun (k : ∀ i,i < L.length → rat L i = rat L 0)=>ag_yes ok k)
  clear ok
  generalize agR L = dec at N1 N2 ⊢
  obtain ⟨b0,off0,ea0⟩:=HR.out.addr (by omega)
  subst ea0
  generalize hn : L.length = m at *
  have HN:=hidIt hn
  clear hn
  obtain ⟨k,rfl⟩ : ∃ k,m = k + 1:=⟨m - 1,by omega⟩
  by_cases hk : k = 0
  ·
   subst hk
   have er:=N2.out (fun i hi=>by rw [show i = 0 by omega])
   subst er
   by_cases hc : cap = 1
   ·
    subst hc
    go_enter Tryz.func23,Tryz.ntmps23
    go_wp2_with (fail)
    refine (CG.out _ HR.out).mono ?_
    rintro e w1 ⟨rfl,k⟩
    have HB1:=hidIt k
    clear k
    go_wp2_with (fail)
    go_loopw [11] (fun y wx=>y = .int .i64 0 ∧ Hid (wx = w1)) (fun y _=>0)
    case atStart=>exact ⟨rfl,hidIt rfl⟩
    case round =>
     obtain ⟨rfl,HW⟩:=hrel
     have ew:=HW.out
     subst ew
     go_wp2_with (fail)
     go_ret
     exact ⟨rfl,HB1.out⟩
   ·
    have hc1 : (1 : Int) < (cap : Int):=by omega
    go_enter Tryz.func23,Tryz.ntmps23
    go_wp2_with (fail)
    refine (CG.out _ HR.out).mono ?_
    rintro e w1 ⟨rfl,k⟩
    have HB1:=hidIt k
    clear k
    go_wp2_with (fail)
    go_loopw [11] (fun y wx=>y = .int .i64 0 ∧ Hid (wx = w1)) (fun y _=>0)
    case atStart=>exact ⟨rfl,hidIt rfl⟩
    case round =>
     obtain ⟨rfl,HW⟩:=hrel
     have ew:=HW.out
     subst ew
     go_wp2_with (fail)
     go_ret
     exact ⟨rfl,HB1.out⟩
  ·
   have hk1 : (1 : Int) ≤ (k : Int):=by omega
   have hk6 : (k : Int) ≤ 6:=by omega
   have hc1 : (k : Int) + 1 ≤ (cap : Int):=by omega
   have hc2 : (1 : Int) < (cap : Int):=by omega
   go_enter Tryz.func23,Tryz.ntmps23
   go_wp2_with (fail)
   refine (CG.out _ HR.out).mono ?_
   rintro e w1 ⟨rfl,kk⟩
   have HB1:=hidIt kk
   clear kk
   go_wp2_with (fail)
   go_loopw [11] (fun y wx=>∃ i : Nat,y = .int .i64 i ∧ i ≤ k ∧ Hid (∀ j,j < i + 1 → rat L j = rat L 0) ∧ Hid (Below w.heap.size w wx)) (fun y _=>(k - intOf y).toNat)
   case atStart=>exact ⟨0,rfl,by omega,hidIt (fun j hj=>by rw [show j = 0 by omega]),HB1⟩
   case round =>
    obtain ⟨i,rfl,hi,HQ,HB⟩:=hrel
    clear HB1
    by_cases hin : i < k
    ·
     have hin' : (i : Int) < (k : Int):=by omega
     have hi0 : (0 : Int) ≤ (i : Int):=by omega
     obtain ⟨b,off,s,t,ea,c0,c1,rE,rM⟩:=(HR.out.kept HB.out).one (i:=i + 1) (by rw [HN.out]; omega)
     obtain ⟨b',off',s',t',ea',d0,d1,rE',rM'⟩:=(HR.out.kept HB.out).one (i:=0) (by rw [HN.out]; omega)
     cases ea
     cases ea'
     have HAl:=hidIt ((Below.refl wr.heap.size wr).alloc (Nat.le_refl _) (.cells #[sv s,sv t] 32))
     have CE:=hidIt (fun W (k : Below (wr.alloc (.cells #[sv s,sv t] 32)).heap.size (wr.alloc (.cells #[sv s,sv t] 32)) W)=>impl_sameReplica s' t' s t (rat L 0) (rat L (i + 1)) W ((rE'.kept HAl.out).kept k) ((rM'.kept HAl.out).kept k) ((rE.kept HAl.out).kept k) ((rM.kept HAl.out).kept k))
     have BX:=hidIt (Bo.Box.new wr #[sv s,sv t] 32)
     have HBa:=hidIt (on HB.out HAl.out)
     have hbw : b0 < wr.heap.size:=World.block_lt_of_cell? _ _ c0
     have e0:=(HAl.out.cell (p:=⟨b0,off0 + 0 * 2,none⟩) hbw).trans d0
     have e1:=(HAl.out.cell (p:=⟨b0,off0 + 0 * 2 + 1,none⟩) hbw).trans d1
     have f0:=BX.out.c 0 rfl
     have f1:=BX.out.c 1 rfl
     rw [show off0 + (i + 1) * 2 = off0 + 2 + i * 2 by omega] at c0 c1
     clear rE rM rE' rM' HAl d0 d1
     obtain ⟨s0,s1,s2⟩:=s
     obtain ⟨t0,t1,t2⟩:=t
     obtain ⟨p0,p1,p2⟩:=s'
     obtain ⟨q0,q1,q2⟩:=t'
     simp only [sv,Nat.zero_mul,Nat.add_zero] at c0 c1 e0 e1 CE BX HBa f0 f1
     obtain ⟨dd,hdd⟩ : ∃ dd,decide (rat L 0 = rat L (i + 1)) = dd:=⟨_,rfl⟩
     rw [hdd] at CE
     have HDD:=hidIt hdd
     clear hdd
     go_wp2_with (fail)
     generalize wr.alloc (.cells #[.slice s0 s1 s2,.slice t0 t1 t2] 32) = wz at CE HBa e0 e1 f0 f1 BX ⊢
     haveI:=BelowBy.one wz
     have g0:=fun p : BelowBy wz=>p.cell e0
     have g1:=fun p : BelowBy wz=>p.cell e1
     have g2:=fun p : BelowBy wz=>p.cell f0
     have g3:=fun p : BelowBy wz=>p.cell f1
     clear e0 e1 f0 f1 c0 c1
     refine wp_region_below (by kernel_rfl) (by kernel_rfl) ?_
     repeat (go_big_quiet_step (first | (go_at_call 49; refine calls_below (CE.out _ (BelowBy.h _)))))
     refine wpQuiet_nil ?_
     intro _ hw'
     obtain ⟨pq,rfl⟩:=hw'
     have HB2:=hidIt (on HBa.out pq.h)
     generalize pq.world = w2 at HB2 ⊢
     clear g0 g1 g2 g3
     cases dd with
     | true =>
      go_wp2_with (fail)
      refine ⟨⟨i + 1,by simp,by omega,hidIt (fun j hj=>?_),HB2⟩,by simp [intOf]; omega⟩
      rcases Nat.lt_succ_iff_lt_or_eq.1 hj with z | z
      ·
       exact HQ.out j z
      ·
       rw [z]; exact (of_decide_eq_true HDD.out).symm
     | false =>
      have er:=N1.out (i + 1) (by omega) (fun z=>of_decide_eq_false HDD.out z.symm)
      subst er
      go_wp2_with (fail)
      go_ret
      exact ⟨rfl,HB2.out⟩
    ·
     have hin' : ¬ (i : Int) < (k : Int):=by omega
     obtain rfl : i = k:=by omega
     have er:=N2.out HQ.out
     subst er
     go_wp2_with (fail)
     go_ret
     exact ⟨rfl,HB.out⟩
end Go.Proofs.YtkeapmmochpcfaaGreat.Rp
namespace Go.Proofs.YtkeapmmochpcfaaGreat.Rp
open Go.ChangeShapes Go.WideShapes Go.ChangeAt Go.RowKit
open Vv (Sl sv hidIt)
open Rg (upd waits wp_region_inv op_at)
def BotP (r r' : Rep) (w : World) (e : Ending) (w' : World) : Prop:=∃ (x y : Sl) (J : Rep),e = .returned (.agg #[sv x,sv y]) ∧ En.Own w' w.heap.size (sv x) J.1 ∧ Mm.Own w' w.heap.size (sv y) J.2 ∧ En.toB J.1 = Bk.mergeE (En.toB r.1) (En.toB r'.1) ∧ Mm.toB J.2 = Mk.mergeE (Mm.toB r.2) (Mm.toB r'.2) ∧ Below w.heap.size w w'
theorem BotP.of {r r' : Rep} {w w' : World} {e : Ending} (x y : Sl) (J : Rep) (h : e = .returned (.agg #[sv x,sv y])) (h1 : En.Own w' w.heap.size (sv x) J.1) (h2 : Mm.Own w' w.heap.size (sv y) J.2) (h3 : En.toB J.1 = Bk.mergeE (En.toB r.1) (En.toB r'.1)) (h4 : Mm.toB J.2 = Mk.mergeE (Mm.toB r.2) (Mm.toB r'.2)) (h5 : Below w.heap.size w w') : BotP r r' w e w':=⟨x,y,J,h,h1,h2,h3,h4,h5⟩
theorem BotP.out {r r' : Rep} {w w' : World} {e : Ending} (h : BotP r r' w e w') : ∃ (x y : Sl) (J : Rep),e = .returned (.agg #[sv x,sv y]) ∧ En.Own w' w.heap.size (sv x) J.1 ∧ Mm.Own w' w.heap.size (sv y) J.2 ∧ En.toB J.1 = Bk.mergeE (En.toB r.1) (En.toB r'.1) ∧ Mm.toB J.2 = Mk.mergeE (Mm.toB r.2) (Mm.toB r'.2) ∧ Below w.heap.size w w':=h
theorem impl_bothOf (s t p q : Sl) (r r' : Rep) (w : World) (hE : RdE w s r.1) (hM : RdM w t r.2) (hE' : RdE w p r'.1) (hM' : RdM w q r'.2) (hs : En.shortR r.1) (hs' : En.shortR r'.1) (ok : okR r = true) (ok' : okR r' = true) (hl : (Bk.mergeE (En.toB r.1) (En.toB r'.1)).length ≤ 80) :
  Calls Tryz.prog 29 #[.agg #[sv s,sv t],.agg #[sv p,sv q]] w fun e w'=>BotP r r' w e w':=by
 unfold okR at ok ok'
 rw [Bool.and_eq_true] at ok ok'
 have ej : Bk.joinB (En.toB r.1) (En.toB r'.1) = (Bk.mergeE (En.toB r.1) (En.toB r'.1),true):=by unfold Bk.joinB; rw [if_pos ⟨ok.1,ok'.1,hl⟩]
 have em : Mk.mergeB (Mm.toB r.2) (Mm.toB r'.2) = Mk.mergeE (Mm.toB r.2) (Mm.toB r'.2):=by unfold Mk.mergeB; rw [if_pos ⟨ok.2,ok'.2⟩]
 obtain ⟨s0,s1,s2⟩:=s
 obtain ⟨t0,t1,t2⟩:=t
 obtain ⟨p0,p1,p2⟩:=p
 obtain ⟨q0,q1,q2⟩:=q
 obtain ⟨e1,rE,nE,lE,cE⟩:=hE
 obtain ⟨e2,rM,nM,lM,cM⟩:=hM
 obtain ⟨e3,rE',nE',lE',cE'⟩:=hE'
 obtain ⟨e4,rM',nM',lM',cM'⟩:=hM'
 simp only at e1 rE nE lE cE e2 rM nM lM cM e3 rE' nE' lE' cE' e4 rM' nM' lM' cM'
 have C1:=hidIt (fun W (h : En.Rd W s0 r.1) (h' : En.Rd W p0 r'.1)=>En.impl_Joined s0 p0 s2 p2 r.1 r'.1 W h h' lE lE' (by omega) (by omega) hs hs')
 have C2:=hidIt (fun W (h : Mm.Rd W t0 r.2) (h' : Mm.Rd W q0 r'.2)=>Mm.impl_Merged t0 q0 t2 q2 r.2 r'.2 W h h' nM (by omega) (by omega))
 rw [ej,← e1,← e3] at C1
 rw [em,← e2,← e4] at C2
 simp only at C1
 have HF : Hid (∀ (x y : Sl) (J : Rep) (w' : World),En.Own w' w.heap.size (sv x) J.1 → Mm.Own w' w.heap.size (sv y) J.2 → En.toB J.1 = Bk.mergeE (En.toB r.1) (En.toB r'.1) → Mm.toB J.2 = Mk.mergeE (Mm.toB r.2) (Mm.toB r'.2) → Below w.heap.size w w' → BotP r r' w (.returned (.agg #[sv x,sv y])) w'):=hidIt (fun x y J w' h1 h2 h3 h4 h5=>BotP.of x y J rfl h1 h2 h3 h4 h5)
 generalize Bk.mergeE (En.toB r.1) (En.toB r'.1) = gE at C1 HF
 generalize Mk.mergeE (Mm.toB r.2) (Mm.toB r'.2) = gM at C2 HF
 have ka:=(((Below.refl w.heap.size w).alloc (Nat.le_refl _) (.cells #[.slice s0 s1 s2,.slice t0 t1 t2] 32)).alloc (by simp) (.cells #[.slice p0 p1 p2,.slice q0 q1 q2] 32)).alloc (by simp; omega) (.cells #[.slice none 0 0,.slice none 0 0] 32)
 have HB:=hidIt ka
 have B1:=Bo.Box.new w #[.slice s0 s1 s2,.slice t0 t1 t2] 32
 have B2:=Bo.Box.new (w.alloc (.cells #[.slice s0 s1 s2,.slice t0 t1 t2] 32)) #[.slice p0 p1 p2,.slice q0 q1 q2] 32
 have B3:=Bo.Box.new ((w.alloc (.cells #[.slice s0 s1 s2,.slice t0 t1 t2] 32)).alloc (.cells #[.slice p0 p1 p2,.slice q0 q1 q2] 32)) #[.slice none 0 0,.slice none 0 0] 32
 have k2:=(Below.refl (w.alloc (.cells #[.slice s0 s1 s2,.slice t0 t1 t2] 32)).heap.size (w.alloc (.cells #[.slice s0 s1 s2,.slice t0 t1 t2] 32))).alloc (Nat.le_refl _) (.cells #[.slice p0 p1 p2,.slice q0 q1 q2] 32)
 have k3:=(Below.refl ((w.alloc (.cells #[.slice s0 s1 s2,.slice t0 t1 t2] 32)).alloc (.cells #[.slice p0 p1 p2,.slice q0 q1 q2] 32)).heap.size ((w.alloc (.cells #[.slice s0 s1 s2,.slice t0 t1 t2] 32)).alloc (.cells #[.slice p0 p1 p2,.slice q0 q1 q2] 32))).alloc (Nat.le_refl _) (.cells #[.slice none 0 0,.slice none 0 0] 32)
 have BX:=hidIt ((B1.kept k2).kept k3)
 have BY:=hidIt (B2.kept k3)
 have BZ:=hidIt B3
 have H1:=hidIt (rE.kept ka)
 have H2:=hidIt (rM.kept ka)
 have H3:=hidIt (rE'.kept ka)
 have H4:=hidIt (rM'.kept ka)
 clear ka B1 B2 B3 k2 k3 rE rM rE' rM' e1 e2 e3 e4 ej em hs hs'
 simp only [sv]
 go_enter Tryz.func29,Tryz.ntmps29
 go_wp2_with (fail)
 have HSZ : Hid ((((w.alloc (.cells #[.slice s0 s1 s2,.slice t0 t1 t2] 32)).alloc (.cells #[.slice p0 p1 p2,.slice q0 q1 q2] 32)).alloc (.cells #[.slice none 0 0,.slice none 0 0] 32)).heap.size = w.heap.size + 3):=hidIt (by simp)
 have hb2 : (w.alloc (.cells #[.slice s0 s1 s2,.slice t0 t1 t2] 32)).heap.size = w.heap.size + 1:=by simp
 have hb3 : ((w.alloc (.cells #[.slice s0 s1 s2,.slice t0 t1 t2] 32)).alloc (.cells #[.slice p0 p1 p2,.slice q0 q1 q2] 32)).heap.size = w.heap.size + 2:=by simp
 rw [hb2] at BY
 rw [hb3] at BZ
 clear hb2 hb3
 generalize ((w.alloc (.cells #[.slice s0 s1 s2,.slice t0 t1 t2] 32)).alloc (.cells #[.slice p0 p1 p2,.slice q0 q1 q2] 32)).alloc (.cells #[.slice none 0 0,.slice none 0 0] 32) = wz at HB BX BY BZ H1 H2 H3 H4 HSZ ⊢
 refine (C1.out _ H1.out H3.out).mono ?_
 rintro e w1 ⟨v,J1,rfl,j1,o1,k1⟩
 obtain ⟨za,zc,ez,_⟩:=o1.form
 subst ez
 have HB1:=hidIt (on HB.out k1)
 have BZ1:=hidIt (BZ.out.kept k1)
 have c1:=(BX.out.kept k1).c 1 rfl
 have c2:=(BY.out.kept k1).c 1 rfl
 have H5:=hidIt (H2.out.kept k1)
 have H6:=hidIt (H4.out.kept k1)
 have HO1:=hidIt o1
 have HJ1:=hidIt j1
 have HK1:=hidIt k1
 clear k1 o1 j1
 generalize hj1 : J1.length = l1 at *
 have HL1:=hidIt hj1
 clear hj1
 go_wp2_with (fail)
 refine (C2.out _ H5.out H6.out).mono ?_
 rintro e w2 ⟨v,J2,rfl,j2,o2,k2⟩
 obtain ⟨ya,yc,ey,_⟩:=o2.form
 subst ey
 have HB2:=hidIt (on HB1.out k2)
 have BZ2:=hidIt (BZ1.out.kept k2)
 have d0:=BZ2.out.c 0 rfl
 have d1:=BZ2.out.c 1 rfl
 have fz:=BZ2.out.fr
 have HO2:=hidIt o2
 have HO3:=hidIt (HO1.out.kept k2)
 have HJ2:=hidIt j2
 have HSz1:=HK1.out.size
 clear k2 o2 j2 c1 c2
 generalize hj2 : J2.length = l2 at *
 have HL2:=hidIt hj2
 clear hj2
 go_wp2_with (fail)
 have BX9:=hidIt ((BZ2.out.put 0 (.slice za l1 zc) (by decide) rfl).put 1 (.slice ya l2 yc) (by simp) rfl)
 have HB9:=hidIt ((HB2.out.setCell (p:=⟨w.heap.size + 2,0,none⟩) (by simp) (.slice za l1 zc)).setCell (p:=⟨w.heap.size + 2,1,none⟩) (by simp) (.slice ya l2 yc))
 have OE9 : En.Own ((w2.setCell ⟨w.heap.size + 2,0,none⟩ (.slice za l1 zc)).setCell ⟨w.heap.size + 2,1,none⟩ (.slice ya l2 yc)) w.heap.size (sv (za,l1,zc)) J1:=En.Own.mono (ownsRow_setCell_below (ownsRow_setCell_below HO3.out (a:=⟨w.heap.size + 2,0,none⟩) (by have:=HSZ.out; show w.heap.size + 2 < _; omega) _) (a:=⟨w.heap.size + 2,1,none⟩) (by have:=HSZ.out; show w.heap.size + 2 < _; omega) _) (by have:=HSZ.out; omega)
 have OM9 : Mm.Own ((w2.setCell ⟨w.heap.size + 2,0,none⟩ (.slice za l1 zc)).setCell ⟨w.heap.size + 2,1,none⟩ (.slice ya l2 yc)) w.heap.size (sv (ya,l2,yc)) J2:=Mm.Own.mono (ownsRow_setCell_below (ownsRow_setCell_below HO2.out (a:=⟨w.heap.size + 2,0,none⟩) (by have:=HSZ.out; show w.heap.size + 2 < _; omega) _) (a:=⟨w.heap.size + 2,1,none⟩) (by have:=HSZ.out; show w.heap.size + 2 < _; omega) _) (by have:=HSZ.out; omega)
 have HFin:=hidIt (HF.out (za,l1,zc) (ya,l2,yc) (J1,J2) _ OE9 OM9 HJ1.out HJ2.out HB9.out)
 clear OE9 OM9 HB9
 generalize (w2.setCell ⟨w.heap.size + 2,0,none⟩ (.slice za l1 zc)).setCell ⟨w.heap.size + 2,1,none⟩ (.slice ya l2 yc) = w9 at BX9 HFin ⊢
 have t0':=BX9.out.c 0 (v:=.slice za l1 zc) rfl
 have t1':=BX9.out.c 1 (v:=.slice ya l2 yc) rfl
 exact bodyPost_ret (v:=.agg #[.slice za l1 zc,.slice ya l2 yc]) (by simp [results,Tryz.results29,go_sem,t0',t1']) rfl HFin.out
def CPTb (g m cap f t s1 s2 t1 t2 p1 p2 q1 q2 : Nat) (s0 t0 p0 q0 : Option Addr) (r r' : Rep) (w0 : World) (W : World) (v : Value) : Prop:=∃ (s u : Sl) (J : Rep),v = .agg #[sv s,sv u] ∧ En.Own W w0.heap.size (sv s) J.1 ∧ Mm.Own W w0.heap.size (sv u) J.2 ∧ En.toB J.1 = Bk.mergeE (En.toB r.1) (En.toB r'.1) ∧ Mm.toB J.2 = Mk.mergeE (Mm.toB r.2) (Mm.toB r'.2) ∧ Below w0.heap.size w0 W
def SPTb (g m cap f t s1 s2 t1 t2 p1 p2 q1 q2 : Nat) (s0 t0 p0 q0 : Option Addr) (r r' : Rep) (w0 : World) (W' : World) : Prop:=∃ (W : World) (s u : Sl) (J : Rep),W' = (W.setCell ⟨g,t * 2,none⟩ (sv s)).setCell ⟨g,t * 2 + 1,none⟩ (sv u) ∧ En.Own W w0.heap.size (sv s) J.1 ∧ Mm.Own W w0.heap.size (sv u) J.2 ∧ En.toB J.1 = Bk.mergeE (En.toB r.1) (En.toB r'.1) ∧ Mm.toB J.2 = Mk.mergeE (Mm.toB r.2) (Mm.toB r'.2) ∧ Below w0.heap.size w0 W
structure RK_Tb (g m cap f t s1 s2 t1 t2 p1 p2 q1 q2 : Nat) (s0 t0 p0 q0 : Option Addr) (r r' : Rep) (w0 : World) (W0 : World) (L : Nat → Bool) (u40 u41 u42 u43 u44 u45 u46 u47 u48 u49 u50 u51 : Value) (W : World) : Prop where
 st0 : L 10 = false → W = W0
 st1 : L 10 = true → L 12 = false → CPTb g m cap f t s1 s2 t1 t2 p1 p2 q1 q2 s0 t0 p0 q0 r r' w0 W u50
 st2 : L 12 = true → SPTb g m cap f t s1 s2 t1 t2 p1 p2 q1 q2 s0 t0 p0 q0 r r' w0 W
 dep : L 10 = true → L 5 = true ∧ L 9 = true
 dps : L 12 = true → L 10 = true
 k0 : L 0 = true → u40 = .slice (some ⟨g,0,none⟩) m cap
 k1 : L 1 = true → u41 = .int .i64 t
 k2 : L 2 = true → u42 = .slice (some ⟨g,0,none⟩) m cap
 k3 : L 3 = true → u43 = .int .i64 f
 k4 : L 4 = true → u44 = .pointer (some ⟨g,f * 2,none⟩)
 k5 : L 5 = true → u45 = .agg #[.slice p0 p1 p2,.slice q0 q1 q2]
 k6 : L 6 = true → u46 = .slice (some ⟨g,0,none⟩) m cap
 k7 : L 7 = true → u47 = .int .i64 t
 k8 : L 8 = true → u48 = .pointer (some ⟨g,t * 2,none⟩)
 k9 : L 9 = true → u49 = .agg #[.slice s0 s1 s2,.slice t0 t1 t2]
 k11 : L 11 = true → u51 = .pointer (some ⟨g,t * 2,none⟩)
def KK_Tb (g m cap f t s1 s2 t1 t2 p1 p2 q1 q2 : Nat) (s0 t0 p0 q0 : Option Addr) (r r' : Rep) (w0 : World) (W0 : World) (y0 y1 y2 y3 y4 y5 y6 y7 y8 y9 y10 y11 y12 y13 y14 y15 y16 y17 y18 y19 y20 y21 y22 y23 y24 y25 y26 y27 y28 y29 y30 y31 y32 y33 y34 y35 y36 y37 y38 y39 y52 : Value) (L : Nat → Bool) (a : Act) (W : World) : Prop:=∃ u40 u41 u42 u43 u44 u45 u46 u47 u48 u49 u50 u51 : Value,a = ⟨(y0 :: y1 :: y2 :: y3 :: y4 :: y5 :: y6 :: y7 :: y8 :: y9 :: y10 :: y11 :: y12 :: y13 :: y14 :: y15 :: y16 :: y17 :: y18 :: y19 :: y20 :: y21 :: y22 :: y23 :: y24 :: y25 :: y26 :: y27 :: y28 :: y29 :: y30 :: y31 :: y32 :: y33 :: y34 :: y35 :: y36 :: y37 :: y38 :: y39 :: u40 :: u41 :: u42 :: u43 :: u44 :: u45 :: u46 :: u47 :: u48 :: u49 :: u50 :: u51 :: y52 :: []).toArray,[]⟩ ∧ RK_Tb g m cap f t s1 s2 t1 t2 p1 p2 q1 q2 s0 t0 p0 q0 r r' w0 W0 L u40 u41 u42 u43 u44 u45 u46 u47 u48 u49 u50 u51 W
theorem both_len {L : List Rep} (ok : okG L = true) {f t : Nat} (hf : f < L.length) (ht : t < L.length) : (Bk.mergeE (En.toB (rat L f).1) (En.toB (rat L t).1)).length ≤ 80 ∧ Bk.mergeE (En.toB (rat L f).1) (En.toB (rat L t).1) = Bk.whole (bks [rat L t,rat L f]) ∧ Mk.mergeE (Mm.toB (rat L f).2) (Mm.toB (rat L t).2) = Mk.whole (mbs [rat L t,rat L f]):=by
 have hT:=okG_tame ok
 have e1 : Bk.mergeE (En.toB (rat L f).1) (En.toB (rat L t).1) = Bk.whole (bks [rat L t,rat L f]):=by
  show _ = Bk.mergeE (Bk.mergeE [] _) _
  rw [Bk.mergeE_nil]
  exact Bk.merge_comm (hT.br f hf) (hT.br t ht)
 refine ⟨?_,e1,?_⟩
 ·
  obtain ⟨h1,h2,h3,h4⟩:=(okG_iff L).1 ok
  have hg:=h3.tell (f:=f) (t:=t) (by rw [bks_length]; exact hf) (by rw [bks_length]; exact ht)
  have hm : Bk.at0 (Bk.tell (bks L) f t) t ∈ Bk.tell (bks L) f t:=Bk.at0_mem (by rw [Bk.tell_length,bks_length]; exact ht)
  have hl:=Bk.len_whole hg.ris hm
  rw [Bk.tell_at (by rw [bks_length]; exact ht),if_pos rfl,bks_at ht,bks_at hf,Bk.merge_comm (hT.br t ht) (hT.br f hf)] at hl
  have:=hg.len
  omega
 ·
  show _ = Mk.mergeE (Mk.mergeE [] _) _
  rw [Mk.mergeE_nil]
  exact Mk.merge_comm (hT.mr f hf) (hT.mr t ht)
theorem impl_Told (a : Option Addr) (cap : Nat) (L : List Rep) (f t : Int) (w : World) (h : Rd w a L) (hs : Short L) (hl : L.length ≤ 9223372036854775807) (hlb : ∀ i,i < L.length → (rat L i).1.length ≤ 9223372036854775807 ∧ (rat L i).2.length ≤ 9223372036854775807) :
  Calls Tryz.prog 7 #[.slice a L.length cap,.int .i64 f,.int .i64 t] w fun e w'=>TolP L f t w e w':=by
 have CG:=hidIt (fun W (r : Rd W a L)=>impl_GroupOk a cap L W r hs hl hlb)
 have HR:=hidIt h
 have HSh:=hidIt hs
 clear h hs hlb
 cases ok : okG L with
 | false =>
  rw [ok] at CG
  have HT:=hidIt (ToldR.mkNo (f:=f) (t:=t) ok)
  clear ok
  generalize L.length = m at *
  go_enter Tryz.func7,Tryz.ntmps7
  go_wp2_with (fail)
  refine (CG.out _ HR.out).mono ?_
  rintro e w1 ⟨rfl,k⟩
  have HB1:=hidIt k
  clear k
  go_wp2_with (fail)
  refine bodyPost_ret (v:=.tuple #[.slice (some ⟨w1.heap.size,0,none⟩) 0 0,.bool false]) (by simp [results,Tryz.results7,go_sem]) rfl ?_
  exact TolP.of rfl HT.out ((Own.new w1).mono HB1.out.size (by simp) (Nat.le_refl _)) (HB1.out.alloc HB1.out.size _)
 | true =>
  rw [ok] at CG
  have hT:=okG_tame ok
  have hall:=okG_all ok
  have h1:=hall.1
  have h6:=hall.2.1
  have CC:=hidIt (fun W (r : Rd W a L)=>impl_copiedReplicas a cap L W r hT)
  have CB:=hidIt (fun W s t p q (f' t' : Nat) (hf : f' < L.length) (ht : t' < L.length) (hE : RdE W s (rat L f').1) (hM : RdM W t (rat L f').2) (hE' : RdE W p (rat L t').1) (hM' : RdM W q (rat L t').2)=>impl_bothOf s t p q (rat L f') (rat L t') W hE hM hE' hM' (HSh.out f' hf) (HSh.out t' ht) (hall.2.2.1 f' hf) (hall.2.2.1 t' ht) (both_len ok hf ht).1)
  have HTO:=hidIt (fun (q : ¬ inG L.length f t)=>ToldR.mkOut (f:=f) (t:=t) ok q)
  have HTY:=hidIt (fun M (q : inG L.length f t) (k : TellR L M f.toNat t.toNat)=>ToldR.mkYes (f:=f) (t:=t) ok q k)
  have HTS:=hidIt (fun (f' t' : Nat) (J : Rep) (hf : f' < L.length) (ht : t' < L.length) (e1 : En.toB J.1 = Bk.mergeE (En.toB (rat L f').1) (En.toB (rat L t').1)) (e2 : Mm.toB J.2 = Mk.mergeE (Mm.toB (rat L f').2) (Mm.toB (rat L t').2))=>tell_set (J:=J) hf ht (e1.trans (both_len ok hf ht).2.1) (e2.trans (both_len ok hf ht).2.2))
  clear ok hall hT
  generalize hn : L.length = m at *
  have HN:=hidIt hn
  clear hn
  go_enter Tryz.func7,Tryz.ntmps7
  go_wp2_with (fail)
  refine (CG.out _ HR.out).mono ?_
  rintro e w1 ⟨rfl,k⟩
  have HB1:=hidIt k
  clear k
  go_wp2_with (fail)
  refine (CC.out _ (HR.out.kept HB1.out)).mono ?_
  intro e w2 hz
  obtain ⟨v,rfl,o2,k2⟩:=hz.out
  obtain ⟨va,vc,ev,hvc,hvm,hvn⟩:=o2.formN HN.out
  subst ev
  obtain ⟨g,eg⟩:=own_zero o2 (by rw [HN.out]; exact h1)
  subst eg
  have HB2:=hidIt (on HB1.out k2)
  have HO2:=hidIt (o2.mono HB1.out.size (Nat.le_refl _) (Nat.le_refl _))
  clear hz o2 k2 hvn CG CC
  by_cases q : inG m f t
  ·
   unfold inG at q
   obtain ⟨f',rfl⟩ : ∃ f' : Nat,f = (f' : Int):=⟨f.toNat,by omega⟩
   obtain ⟨t',rfl⟩ : ∃ t' : Nat,t = (t' : Int):=⟨t.toNat,by omega⟩
   have z1 : decide ((f' : Int) < 0) = false:=decide_eq_false (by omega)
   have z2 : decide ((m : Int) ≤ (f' : Int)) = false:=decide_eq_false (by omega)
   have z3 : decide ((t' : Int) < 0) = false:=decide_eq_false (by omega)
   have z4 : decide ((m : Int) ≤ (t' : Int)) = false:=decide_eq_false (by omega)
   have z5 : ((f' : Int) == (t' : Int)) = false:=by simpa using q.2.2.2.2
   have z6 : decide (m ≤ f') = false:=decide_eq_false (by omega)
   have z7 : decide (m ≤ t') = false:=decide_eq_false (by omega)
   have z8 : f' < m:=by omega
   have z9 : t' < m:=by omega
   have z10 : ¬ f' = t':=by omega
   have HTY1:=hidIt (fun M (k : TellR L M f' t')=>HTY.out M q (by simpa using k))
   clear q HTY HTO
   have htL : t' < L.length:=by rw [HN.out]; exact z9
   have hfL : f' < L.length:=by rw [HN.out]; exact z8
   obtain ⟨⟨s0,s1,s2⟩,⟨t0,t1,t2⟩,c0,c1,f0,f1,oE,oM⟩:=HO2.out.cells htL
   obtain ⟨⟨p0,p1,p2⟩,⟨q0,q1,q2⟩,d0,d1,_,_,oE',oM'⟩:=HO2.out.cells hfL
   have kd : Below w2.heap.size w2 w2.drew:=(Below.refl _ w2).drew
   have HC0:=hidIt (CB.out w2.drew (p0,p1,p2) (q0,q1,q2) (s0,s1,s2) (t0,t1,t2) f' t' z8 z9 ((rdE_of oE').kept kd) ((rdM_of oM').kept kd) ((rdE_of oE).kept kd) ((rdM_of oM).kept kd))
   have hgw : g < w2.drew.heap.size:=World.block_lt_of_cell? _ _ c0
   have hgl : w.heap.size ≤ g:=by
    obtain ⟨C,hC⟩:=HO2.out
    exact (World.ownsRow.lt hC.row g rfl).1
   have c0' : w2.drew.cell? ⟨g,t' * 2,none⟩ = some (.slice s0 s1 s2):=c0
   have c1' : w2.drew.cell? ⟨g,t' * 2 + 1,none⟩ = some (.slice t0 t1 t2):=c1
   have d0' : w2.drew.cell? ⟨g,f' * 2,none⟩ = some (.slice p0 p1 p2):=d0
   have d1' : w2.drew.cell? ⟨g,f' * 2 + 1,none⟩ = some (.slice q0 q1 q2):=d1
   have f0' : w2.drew.frozen? ⟨g,t' * 2,none⟩ = false:=f0
   have f1' : w2.drew.frozen? ⟨g,t' * 2 + 1,none⟩ = false:=f1
   clear c0 c1 d0 d1 f0 f1 oE oM oE' oM' kd CB
   obtain ⟨W0,hW0⟩ : ∃ W0,W0 = w2.drew:=⟨_,rfl⟩
   have HBW : Hid (∀ W,Below W0.heap.size W0 W → Below w2.heap.size w2 W):=hidIt (fun W k=>by rw [hW0] at k; exact ⟨k.os,k.tape,k.output,k.size,k.block⟩)
   have HSZ : Hid (W0.heap.size = w2.heap.size):=hidIt (by rw [hW0]; rfl)
   rw [← hW0] at c0' c1' d0' d1' f0' f1' HC0 hgw
   have c0:=c0'
   have c1:=c1'
   have d0:=d0'
   have d1:=d1'
   have f0:=f0'
   have f1:=f1'
   have HC:=HC0
   clear c0' c1' d0' d1' f0' f1' HC0
   have hti : (t' : Int) < (m : Int):=by omega
   have hfi : (f' : Int) < (m : Int):=by omega
   have ht0 : (0 : Int) ≤ (t' : Int):=by omega
   have hf0 : (0 : Int) ≤ (f' : Int):=by omega
   simp only [sv] at HC
   go_wp2_with (fail)
   refine wp_region_inv (by kernel_rfl) (by kernel_rfl) (KK_Tb g m vc f' t' s1 s2 t1 t2 p1 p2 q1 q2 s0 t0 p0 q0 (rat L f') (rat L t') W0 (W0) _ _ _ _ _ _ _ _ _ _ _ _ _ _ _ _ _ _ _ _ _ _ _ _ _ _ _ _ _ _ _ _ _ _ _ _ _ _ _ _ _) ⟨_,_,_,_,_,_,_,_,_,_,_,_,rfl,⟨fun _=>hW0.symm,(fun q=>by cases q),(fun q=>by cases q),(fun q=>by cases q),(fun q=>by cases q),(fun q=>by cases q),(fun q=>by cases q),(fun q=>by cases q),(fun q=>by cases q),(fun q=>by cases q),(fun q=>by cases q),(fun q=>by cases q),(fun q=>by cases q),(fun q=>by cases q),(fun q=>by cases q),(fun q=>by cases q)⟩⟩ ?_ ?_
   case refine_1 =>
    clear hW0
    intro Lb a' W i hi hI hL hD
    have hcases : i = 0 ∨ i = 1 ∨ i = 2 ∨ i = 3 ∨ i = 4 ∨ i = 5 ∨ i = 6 ∨ i = 7 ∨ i = 8 ∨ i = 9 ∨ i = 10 ∨ i = 11 ∨ i = 12:=by simp at hi; omega
    clear hi
    obtain ⟨u40,u41,u42,u43,u44,u45,u46,u47,u48,u49,u50,u51,rfl,R⟩:=hI
    rcases hcases with rfl | rfl | rfl | rfl | rfl | rfl | rfl | rfl | rfl | rfl | rfl | rfl | rfl
    ·
     skip
     refine op_at rfl (fun K hK=>?_)
     go_simp
     refine hK _ _ ?_
     exact ⟨_,_,_,_,_,_,_,_,_,_,_,_,rfl,R.st0,R.st1,R.st2,R.dep,R.dps,(fun _=>rfl),R.k1,R.k2,R.k3,R.k4,R.k5,R.k6,R.k7,R.k8,R.k9,R.k11⟩
    ·
     skip
     refine op_at rfl (fun K hK=>?_)
     go_simp
     refine hK _ _ ?_
     exact ⟨_,_,_,_,_,_,_,_,_,_,_,_,rfl,R.st0,R.st1,R.st2,R.dep,R.dps,R.k0,(fun _=>rfl),R.k2,R.k3,R.k4,R.k5,R.k6,R.k7,R.k8,R.k9,R.k11⟩
    ·
     skip
     refine op_at rfl (fun K hK=>?_)
     go_simp
     refine hK _ _ ?_
     exact ⟨_,_,_,_,_,_,_,_,_,_,_,_,rfl,R.st0,R.st1,R.st2,R.dep,R.dps,R.k0,R.k1,(fun _=>rfl),R.k3,R.k4,R.k5,R.k6,R.k7,R.k8,R.k9,R.k11⟩
    ·
     skip
     refine op_at rfl (fun K hK=>?_)
     go_simp
     refine hK _ _ ?_
     exact ⟨_,_,_,_,_,_,_,_,_,_,_,_,rfl,R.st0,R.st1,R.st2,R.dep,R.dps,R.k0,R.k1,R.k2,(fun _=>rfl),R.k4,R.k5,R.k6,R.k7,R.k8,R.k9,R.k11⟩
    ·
     skip
     have e2:=R.k2 (hD 2 (by kernel_rfl))
     subst e2
     have e3:=R.k3 (hD 3 (by kernel_rfl))
     subst e3
     refine op_at rfl (fun K hK=>?_)
     go_simp
     refine hK _ _ ?_
     exact ⟨_,_,_,_,_,_,_,_,_,_,_,_,rfl,R.st0,R.st1,R.st2,R.dep,R.dps,R.k0,R.k1,R.k2,R.k3,(fun _=>rfl),R.k5,R.k6,R.k7,R.k8,R.k9,R.k11⟩
    ·
     skip
     have e4:=R.k4 (hD 4 (by kernel_rfl))
     subst e4
     have hc : Lb 10 = false:=by
      cases q : Lb 10 with
      | false=>rfl
      | true=>have z:=R.dep q; simp [hL] at z
     have eW:=R.st0 hc
     subst eW
     refine op_at rfl (fun K hK=>?_)
     go_simp
     refine hK _ _ ?_
     exact ⟨_,_,_,_,_,_,_,_,_,_,_,_,rfl,R.st0,R.st1,R.st2,(fun q=>by have q2 : Lb 10 = true:=q; rw [hc] at q2; cases q2),R.dps,R.k0,R.k1,R.k2,R.k3,R.k4,(fun _=>rfl),R.k6,R.k7,R.k8,R.k9,R.k11⟩
    ·
     skip
     refine op_at rfl (fun K hK=>?_)
     go_simp
     refine hK _ _ ?_
     exact ⟨_,_,_,_,_,_,_,_,_,_,_,_,rfl,R.st0,R.st1,R.st2,R.dep,R.dps,R.k0,R.k1,R.k2,R.k3,R.k4,R.k5,(fun _=>rfl),R.k7,R.k8,R.k9,R.k11⟩
    ·
     skip
     refine op_at rfl (fun K hK=>?_)
     go_simp
     refine hK _ _ ?_
     exact ⟨_,_,_,_,_,_,_,_,_,_,_,_,rfl,R.st0,R.st1,R.st2,R.dep,R.dps,R.k0,R.k1,R.k2,R.k3,R.k4,R.k5,R.k6,(fun _=>rfl),R.k8,R.k9,R.k11⟩
    ·
     skip
     have e6:=R.k6 (hD 6 (by kernel_rfl))
     subst e6
     have e7:=R.k7 (hD 7 (by kernel_rfl))
     subst e7
     refine op_at rfl (fun K hK=>?_)
     go_simp
     refine hK _ _ ?_
     exact ⟨_,_,_,_,_,_,_,_,_,_,_,_,rfl,R.st0,R.st1,R.st2,R.dep,R.dps,R.k0,R.k1,R.k2,R.k3,R.k4,R.k5,R.k6,R.k7,(fun _=>rfl),R.k9,R.k11⟩
    ·
     skip
     have e8:=R.k8 (hD 8 (by kernel_rfl))
     subst e8
     have hc : Lb 10 = false:=by
      cases q : Lb 10 with
      | false=>rfl
      | true=>have z:=R.dep q; simp [hL] at z
     have eW:=R.st0 hc
     subst eW
     refine op_at rfl (fun K hK=>?_)
     go_simp
     refine hK _ _ ?_
     exact ⟨_,_,_,_,_,_,_,_,_,_,_,_,rfl,R.st0,R.st1,R.st2,(fun q=>by have q2 : Lb 10 = true:=q; rw [hc] at q2; cases q2),R.dps,R.k0,R.k1,R.k2,R.k3,R.k4,R.k5,R.k6,R.k7,R.k8,(fun _=>rfl),R.k11⟩
    ·
     skip
     have e5:=R.k5 (hD 5 (by kernel_rfl))
     subst e5
     have e9:=R.k9 (hD 9 (by kernel_rfl))
     subst e9
     have eW:=R.st0 hL
     subst eW
     refine op_at rfl (fun K hK=>?_)
     go_simp
     refine (HC.out).mono ?_
     intro e W1 hz
     obtain ⟨⟨x0,x1,x2⟩,⟨y0,y1,y2⟩,J,rfl,oE,oM,e1,e2,kk⟩:=hz.out
     simp only [sv]
     go_simp
     refine hK _ _ ?_
     exact ⟨_,_,_,_,_,_,_,_,_,_,_,_,rfl,(fun q=>by cases q),(fun _ _=>⟨(x0,x1,x2),(y0,y1,y2),J,rfl,oE,oM,e1,e2,kk⟩),(fun q=>by have q2:=R.dps q; rw [hL] at q2; cases q2),(fun _=>⟨hD 5 (by kernel_rfl),hD 9 (by kernel_rfl)⟩),(fun _=>rfl),R.k0,R.k1,R.k2,R.k3,R.k4,R.k5,R.k6,R.k7,R.k8,R.k9,R.k11⟩
    ·
     skip
     have e0:=R.k0 (hD 0 (by kernel_rfl))
     subst e0
     have e1:=R.k1 (hD 1 (by kernel_rfl))
     subst e1
     refine op_at rfl (fun K hK=>?_)
     go_simp
     refine hK _ _ ?_
     exact ⟨_,_,_,_,_,_,_,_,_,_,_,_,rfl,R.st0,R.st1,R.st2,R.dep,R.dps,R.k0,R.k1,R.k2,R.k3,R.k4,R.k5,R.k6,R.k7,R.k8,R.k9,(fun _=>rfl)⟩
    ·
     skip
     have e11:=R.k11 (hD 11 (by kernel_rfl))
     subst e11
     have hcc:=hD 10 (by kernel_rfl)
     have hc:=R.st1 hcc hL
     obtain ⟨⟨x0,x1,x2⟩,⟨y0,y1,y2⟩,J,rfl,oE,oM,e1,e2,kz⟩:=hc
     have g0 : W.cell? ⟨g,t' * 2,none⟩ = some (.slice s0 s1 s2):=by rw [kz.cell hgw]; exact c0
     have g1 : W.cell? ⟨g,t' * 2 + 1,none⟩ = some (.slice t0 t1 t2):=by rw [kz.cell hgw]; exact c1
     have z0 : W.frozen? ⟨g,t' * 2,none⟩ = false:=by rw [kz.frozen hgw]; exact f0
     have z1 : W.frozen? ⟨g,t' * 2 + 1,none⟩ = false:=by rw [kz.frozen hgw]; exact f1
     simp only [sv]
     refine op_at rfl (fun K hK=>?_)
     go_simp
     refine hK _ _ ?_
     exact ⟨_,_,_,_,_,_,_,_,_,_,_,_,rfl,(fun q=>by have q2 : Lb 10 = false:=q; rw [hcc] at q2; cases q2),(fun _ q=>by cases q),(fun _=>⟨W,(x0,x1,x2),(y0,y1,y2),J,rfl,oE,oM,e1,e2,kz⟩),R.dep,(fun _=>hcc),R.k0,R.k1,R.k2,R.k3,R.k4,R.k5,R.k6,R.k7,R.k8,R.k9,R.k11⟩
   case refine_2 =>
    intro Lb a' W hI hall
    obtain ⟨u40,u41,u42,u43,u44,u45,u46,u47,u48,u49,u50,u51,rfl,R⟩:=hI
    have hS:=R.st2 (hall 12)
    clear R hall
    obtain ⟨W1,s,u,J,rfl,oE,oM,e1,e2,kk⟩:=hS
    have kw:=HBW.out W1 kk
    have hO:=HO2.out.kept kw
    have hsz : w2.heap.size ≤ W0.heap.size:=by have:=HSZ.out; omega
    have hP:=hO.put htL (oE.mono hsz) (oM.mono hsz)
    have HG:=hidIt hP.grow
    have HB3:=hidIt (HB2.out.trans (((kw.mono (Nat.le_trans HB2.out.size (Nat.le_refl _))).setCell (p:=⟨g,t' * 2,none⟩) hgl (sv s)).setCell (p:=⟨g,t' * 2 + 1,none⟩) hgl (sv u)))
    have HT:=hidIt (HTY1.out _ (HTS.out f' t' J z8 z9 e1 e2))
    generalize (W1.setCell ⟨g,t' * 2,none⟩ (sv s)).setCell ⟨g,t' * 2 + 1,none⟩ (sv u) = w9 at HG HB3 ⊢
    clear hP hO kw oE oM e1 e2 kk
    go_wp2_with (fail)
    refine bodyPost_ret (v:=.tuple #[.slice (some ⟨g,0,none⟩) m vc,.bool true]) (by simp [results,Tryz.results7,go_sem]) rfl ?_
    exact TolP.of rfl HT.out HG.out HB3.out
  ·
   have HT:=hidIt (HTO.out q)
   clear CB HTY HTO HTS
   by_cases z1 : f < 0
   ·
    have z1' : decide (f < 0) = true:=decide_eq_true z1
    clear q
    go_wp2_with (fail)
    refine bodyPost_ret (v:=.tuple #[.slice (some ⟨g,0,none⟩) m vc,.bool false]) (by simp [results,Tryz.results7,go_sem]) rfl ?_
    exact TolP.of rfl HT.out HO2.out HB2.out
   ·
    have z1' : decide (f < 0) = false:=decide_eq_false z1
    by_cases z2 : (m : Int) ≤ f
    ·
     have z2' : decide ((m : Int) ≤ f) = true:=decide_eq_true z2
     clear q
     go_wp2_with (fail)
     refine bodyPost_ret (v:=.tuple #[.slice (some ⟨g,0,none⟩) m vc,.bool false]) (by simp [results,Tryz.results7,go_sem]) rfl ?_
     exact TolP.of rfl HT.out HO2.out HB2.out
    ·
     have z2' : decide ((m : Int) ≤ f) = false:=decide_eq_false z2
     by_cases z3 : t < 0
     ·
      have z3' : decide (t < 0) = true:=decide_eq_true z3
      clear q
      go_wp2_with (fail)
      refine bodyPost_ret (v:=.tuple #[.slice (some ⟨g,0,none⟩) m vc,.bool false]) (by simp [results,Tryz.results7,go_sem]) rfl ?_
      exact TolP.of rfl HT.out HO2.out HB2.out
     ·
      have z3' : decide (t < 0) = false:=decide_eq_false z3
      by_cases z4 : (m : Int) ≤ t
      ·
       have z4' : decide ((m : Int) ≤ t) = true:=decide_eq_true z4
       clear q
       go_wp2_with (fail)
       refine bodyPost_ret (v:=.tuple #[.slice (some ⟨g,0,none⟩) m vc,.bool false]) (by simp [results,Tryz.results7,go_sem]) rfl ?_
       exact TolP.of rfl HT.out HO2.out HB2.out
      ·
       have z4' : decide ((m : Int) ≤ t) = false:=decide_eq_false z4
       have ef : f = t:=by
        unfold inG at q
        omega
       subst ef
       have z5 : (f == f) = true:=by simp
       clear q
       go_wp2_with (fail)
       refine bodyPost_ret (v:=.tuple #[.slice (some ⟨g,0,none⟩) m vc,.bool false]) (by simp [results,Tryz.results7,go_sem]) rfl ?_
       exact TolP.of rfl HT.out HO2.out HB2.out
end Go.Proofs.YtkeapmmochpcfaaGreat.Rp

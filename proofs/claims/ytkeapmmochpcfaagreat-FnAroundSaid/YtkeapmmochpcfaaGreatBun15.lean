/- Goroutines: QPhs. -/
import Derived.Test.YtkeapmmochpcfaaGreatBun14
import Derived.Test.YtkeapmmochpcfaaGreatBun12
set_option maxRecDepth 100000
set_option maxHeartbeats 32000000
set_option linter.unusedVariables false
namespace Go.Proofs.YtkeapmmochpcfaaGreat.Wt
open Go Go.Conc
open Nf (Says More Adding Outs Again Sema Swap Looks InB Ph Adds Pst)
open Go.ConcN (WD cnt Vc Ssum Fsum sumTo upd WgLive Has RelBy)
open Go.ConcR (KK WgAt stA smA Payload DC0)
set_option linter.unusedSectionVars false
variable [Payload]
theorem less2_wf : WellFounded Less2:=by
 have h : ∀ a b,Less2 a b → Prod.Lex (· < ·) (· < ·) a b:=by
  rintro ⟨a1,a2⟩ ⟨b1,b2⟩ (h | ⟨h1,h2⟩)
  ·
   exact Prod.Lex.left _ _ h
  ·
   dsimp only at h1 h2
   subst h1
   exact Prod.Lex.right _ h2
 exact Subrelation.wf (fun {a b}=>h a b) (Prod.lex Nat.lt_wfRel Nat.lt_wfRel).wf
section
variable {P : Program} {ty : TypeId} {Wg Ch cap n : Nat} {v x : Nat → Value} {Shun : Loc → Prop} {la : Nat → Prop} {T0 N0 : Nat} {w0 : World} {B0 : Nat} {Hd Nx : List Nat → Goroutine → World → Prop}
theorem phase (hHd : ∀ os g w,Hd os g w → g.status = .running) (hn : n ≤ 2147483647) (hcap : n ≤ cap) (hsh : ∀ l,Shun l → ∃ a : Addr,l = .cell a ∧ a.block < B0 ∧ ¬ la a.block)
  (hLk : ∀ os g w,Hd os g w → ∃ k,Goes P true (RS ty Wg la os) DC0 (Looks P (RS ty Wg la os) ty Wg (Hd os) (Nx os)) k g w) :
  ∀ (μ : Nat × Nat) (m : Machine) (t : Trace),Inv P ty Wg Ch cap n v x Shun la T0 N0 w0 B0 Hd Nx μ m t → ∃ k m' t',runNT P k m t = (.next m',t') ∧ Over P ty Wg Ch cap n v Shun la N0 w0 B0 Nx m' t':=by
 intro μ
 induction μ using less2_wf.induction with
 | _ μ ih =>
  rintro m t ⟨gs,w,sl,j,D,bx,os,tg,f0,d0,q,l,a,st,sm,rfl,ha,hcs,hcm,hwg,hmd,rfl⟩
  have hpos:=hcm.ph.pos
  have stat : ∀ k z,gs[k]? = some z → z.status = .running ∨ z.status = .finished ∨ (k = 0 ∧ z.status = .blocked):=by
   intro k z hz
   rcases Nat.eq_zero_or_pos k with rfl | hk
   ·
    rw [ha] at hz; cases hz
    rcases hcs.status hHd with ⟨h,_⟩ | ⟨h,_⟩
    ·
     exact .inl h
    ·
     exact .inr (.inr ⟨rfl,h⟩)
   ·
    rcases Nat.lt_or_ge k N0 with hlt | hge
    ·
     exact (hcm.old k z hk hlt hz).status.imp id .inl
    ·
     have hkj : k < N0 + j:=by have:=(Array.getElem?_eq_some_iff.1 hz).1; rw [hcm.size] at this; exact this
     obtain ⟨z',hz',hs⟩:=hcm.wk (k - N0) (by omega)
     rw [show N0 + (k - N0) = k by omega,hz] at hz'
     cases hz'
     exact hs.status.imp id .inl
  have haw : ∀ z ∈ gs,awake z:=by
   intro z hz tm
   obtain ⟨k,hk⟩:=Array.mem_iff_getElem?.1 hz
   rcases stat k z hk with h | h | ⟨_,h⟩ <;> rw [h] <;> simp
  have hex : ∃ (i : Nat) (z : Goroutine),gs[i]? = some z ∧ z.status = .running:=by
   rcases hcs.status hHd with ⟨hs,_⟩ | ⟨_,rfl⟩
   ·
    exact ⟨0,a,ha,hs⟩
   ·
    obtain ⟨i,hi,h1⟩:=hmd.blocked
    obtain ⟨z,hz,hs⟩:=hcm.wk i hi
    exact ⟨N0 + i,z,hz,hs.running h1⟩
  obtain ⟨i,z,d,sl',hz,hrun,hst⟩:=crowd_pick (P:=P) (w:=w) (sl:=sl) haw hex
  have hcs':=hcs.rely (RS.at w d)
  have hcm':=hcm.at d
  have hwg' : WgAt ty Wg (w.at d) st sm:=hwg
  have go : (∃ m₁ ops μ',runT P (crowd gs (w.at d) sl') i = (.next m₁,ops) ∧ Less2 μ' (rnk n (Vc j D) tg + Ssum j D,f0 + 2 * Fsum j D + 2 * sumTo N0 q) ∧ Inv P ty Wg Ch cap n v x Shun la T0 N0 w0 B0 Hd Nx μ' m₁ (t ++ ops)) →
    ∃ k m' t',runNT P k (crowd gs w sl) t = (.next m',t') ∧ Over P ty Wg Ch cap n v Shun la N0 w0 B0 Nx m' t':=by
   rintro ⟨m₁,ops,μ',hr,hlt,hI⟩
   obtain ⟨k,m',t',e,h⟩:=ih μ' hlt m₁ (t ++ ops) hI
   refine ⟨k + 1,m',t',?_,h⟩
   simp only [runNT,hst,hr]
   exact e
  rcases Nat.eq_zero_or_pos i with rfl | hi
  ·
   rw [ha] at hz; cases hz
   rcases step_starter (sl:=sl') hHd hn hsh hLk ha hcs' hcm' hwg' hmd hrun with ⟨m₁,ops,hr,ho⟩ | h
   ·
    refine ⟨1,m₁,t ++ ops,?_,ho⟩
    simp only [runNT,hst,hr]
   ·
    exact go h
  ·
   rcases Nat.lt_or_ge i N0 with hlt | hge
   ·
    exact go (inv_leaver (sl:=sl') hHd ha hcs' hcm' hwg' hmd hi hlt hz hrun)
   ·
    have hkj : i < N0 + j:=by have:=(Array.getElem?_eq_some_iff.1 hz).1; rw [hcm.size] at this; exact this
    obtain ⟨c,rfl⟩ : ∃ c,i = N0 + c:=⟨i - N0,by omega⟩
    by_cases h8 : (D c).stage = 8
    ·
     exact go (step_send (sl:=sl') hHd hcap ha hcs' hcm' hwg' hmd (by omega) hz h8)
    ·
     exact go (step_worker (sl:=sl') hHd hn hcap ha hcs' hcm' hwg' hmd (by omega) hz hrun h8)
end
end Go.Proofs.YtkeapmmochpcfaaGreat.Wt
namespace Go.Proofs.YtkeapmmochpcfaaGreat.Wt
open Go Go.Conc
open Nf (Says More Adding Outs Again Sema Swap Looks InB Ph Adds Pst)
open Go.ConcN (WD cnt Vc Ssum Fsum sumTo upd WgLive Has RelBy)
open Go.ConcR (KK WgAt stA smA Payload DC0)
set_option linter.unusedSectionVars false
variable [Payload]
section
variable {P : Program} {ty : TypeId} {Wg Ch cap n : Nat} {v x : Nat → Value} {Shun : Loc → Prop} {la : Nat → Prop} {Hd Nx : List Nat → Goroutine → World → Prop} {gs : Array Goroutine} {w : World} {sl : Option (Nat × Nat)} {t : Trace} {q : Nat → Nat} {B : Nat} {g : Goroutine}
theorem phase_run (hHd : ∀ os g w,Hd os g w → g.status = .running) (hn : n ≤ 2147483647) (hcap : n ≤ cap) (hsh : ∀ l,Shun l → ∃ a : Addr,l = .cell a ∧ a.block < w.heap.size ∧ ¬ la a.block)
  (hLk : ∀ os g w,Hd os g w → ∃ k,Goes P true (RS ty Wg la os) DC0 (Looks P (RS ty Wg la os) ty Wg (Hd os) (Nx os)) k g w)
  (ha : gs[0]? = some g) (hL : Leavers P t gs q) (hP : Pst Shun B t) (hB : B ≤ Wg) (hW : Wg < w.heap.size) (hWg : WgAt ty Wg w 0 0) {tm : Bool} (hCh : w.heap[Ch]? = some (.chan cap #[] false 0 0 tm)) (hWC : Wg ≠ Ch) (hlW : ¬ la Wg) (hlC : ¬ la Ch) (hla : ∀ b,la b → b < w.heap.size)
  (hsc : Script P ty Wg la Ch n v x (Fi P ty Wg la Hd) n [] g w) :
  ∃ k m' t',runNT P k (crowd gs w sl) t = (.next m',t') ∧ Over P ty Wg Ch cap n v Shun la gs.size w w.heap.size Nx m' t':=by
 have hN : 0 < gs.size:=(Array.getElem?_eq_some_iff.1 ha).1
 have hC : Ch < w.heap.size:=(Array.getElem?_eq_some_iff.1 hCh).1
 have hcm : Cm P ty Wg Ch cap v x Shun la t.size gs.size w w.heap.size 0 gs w t (fun _=>⟨0,0,0⟩) (fun _=>none) [] 0 q [] :=
  ⟨rfl,fun i hi=>absurd hi (Nat.not_lt_zero _),fun i z h0 _ hz=>hL.old i z h0 hz,fun k hk=>hL.above k hk,(Ph.begin hP hB hN).mono (by omega),hP.hears,fun i hi=>absurd hi (Nat.not_lt_zero _),fun i hi=>absurd hi (Nat.not_lt_zero _),⟨tm,hCh⟩,List.Perm.refl _,
   ⟨fun k b hb=>by simp at hb,⟨hWC,hlW,by simp⟩,⟨hlC,by simp⟩,hla,fun b hb=>by simp at hb,hC,fun _ _ _ _=>rfl,Nat.le_refl _,⟨rfl,rfl⟩⟩⟩
 have hmd : ∀ tg,early tg → pend tg = 0 → (∀ vs,tg ≠ .sw vs) → Md 0 (fun _=>(⟨0,0,0⟩ : WD)) tg 0 0:=fun tg h1 h2 h3 =>
  Md.mk_early (fun a ha=>absurd ha (Nat.not_lt_zero _)) h1 (by rw [h2]; simp [Vc,sumTo]) (fun vs e=>absurd e (h3 vs))
 have hI : ∃ μ,Inv P ty Wg Ch cap n v x Shun la t.size gs.size w w.heap.size Hd Nx μ (crowd gs w sl) t:=by
  cases n with
  | zero =>
   obtain ⟨m,hk⟩:=hsc
   exact ⟨_,gs,w,sl,0,_,_,[],.kd,m,0,q,[],g,0,0,rfl,ha,.kd hk,hcm,hWg,hmd .kd trivial rfl (fun _ e=>by cases e),rfl⟩
  | succ r =>
   obtain ⟨m,hk⟩:=hsc
   have hc:=Csit.s7 (P:=P) (ty:=ty) (Wg:=Wg) (Ch:=Ch) (n:=r + 1) (v:=v) (x:=x) (la:=la) (Hd:=Hd) (Nx:=Nx) (Nat.lt_succ_self r) hk
   rw [Nat.sub_self] at hc
   exact ⟨_,gs,w,sl,0,_,_,[],.sp r 7,m,0,q,[],g,0,0,rfl,ha,hc,hcm,hWg,hmd (.sp r 7) trivial rfl (fun _ e=>by cases e),rfl⟩
 obtain ⟨μ,hI⟩:=hI
 exact phase hHd hn hcap hsh hLk μ _ _ hI
end
end Go.Proofs.YtkeapmmochpcfaaGreat.Wt
namespace Go.Proofs.YtkeapmmochpcfaaGreat.Nf
open Go Go.Conc Go.ConcN Go.RowKit Go.Conc.Lib Go.ConcR.Gen
open Go.ConcR (KK wgBlock WgAt stA smA rd wr mk DC0)
open Go.ConcN.Gen
set_option linter.unusedSectionVars false
def undefs (n : Nat) : List Value:=List.replicate n undef
theorem add_goes {L : WgLink} {P : Program} {R : World → World → Prop} {Wg : Nat} {F : World → Prop} {Nx : Goroutine → World → Prop} {b₀ : Frame} {a₀ : Act} {ops₀ : Array Oper} {i₀ : Nat} {rest₀ : List Nat} {k₀ : List Item} {cs : List Frame} {mT : Nat}
  (H : WgLib P L) (hR : ∀ {w w₁},F w ∧ WgLive L.tWg Wg w → R w w₁ → F w₁ ∧ WgLive L.tWg Wg w₁) (hS : ∀ w x,F w → F (w.setCell (stA Wg) x))
  (hT : ∀ w,F w ∧ WgLive L.tWg Wg w → Goes P true R DC0 Nx mT (G (b₀.at (a₀.put ((ops₀[i₀]?).bind (·.dst)) (.tuple #[])) (.inRegion ops₀ rest₀ :: k₀)) cs) w)
  (w : World) (hF : F w ∧ WgLive L.tWg Wg w) :
  Goes P true R DC0 (Adding P R L.tWg Wg Nx) 200
   (G ((base L.add).at ⟨(.pointer (some ⟨Wg,0,none⟩) :: .int .i64 1 :: undefs 115).toArray,[]⟩ [.code (body_add L)]) (b₀.at a₀ (.inRegion ops₀ (i₀ :: rest₀) :: k₀) :: cs)) w:=by
 lib_facts
 simp only [body_add,addFn,Option.getD_some,undefs,List.replicate]
 u_c stepG_seq hR hF
 u_cnd true hR hF
 u_c stepG_seq hR hF
 u_c stepG_seq hR hF
 u_reg hR hF
 u_op hR hF
 u_op hR hF
 u_c stepG_region_end hR hF
 u_cnd false hR hF
 u_c stepG_skip hR hF
 u_c stepG_seq hR hF
 u_reg hR hF
 refine Goes.stop (fun w₁ h₁=>?_)
 replace hF:=hR hF h₁
 clear h₁
 refine ⟨rfl,_,stepG_mark0 .disable (by simp) rfl rfl (by k_ne) rfl H.f_disable (x_disable_n L) (x_disable_b L) (x_disable_x L) (x_disable_f L),200,?_⟩
 walk_nrm
 u_c stepG_region_end hR hF
 u_reg hR hF
 u_defer hR hF
 u_c stepG_region_end hR hF
 u_c stepG_seq hR hF
 u_reg hR hF
 u_op hR hF
 u_c stepG_region_end hR hF
 u_c stepG_seq hR hF
 u_c stepG_seq hR hF
 u_reg hR hF
 u_bub hR hF
 u_c stepG_region_end hR hF
 u_cnd false hR hF
 u_c stepG_skip hR hF
 u_c stepG_seq hR hF
 u_reg hR hF
 u_op hR hF
 u_op hR hF
 u_op hR hF
 u_op hR hF
 u_op hR hF
 u_op hR hF
 u_call H.f_uAdd (nm_uAdd L) uAddFn hR hF
 u_c stepG_seq hR hF
 u_reg hR hF
 u_op hR hF
 u_c stepG_region_end hR hF
 u_c stepG_seq hR hF
 u_reg hR hF
 u_op hR hF
 u_op hR hF
 u_op hR hF
 u_op hR hF
 refine Goes.stop (fun w₂ h₂=>?_)
 replace hF:=hR hF h₂
 clear h₂
 refine ⟨rfl,fun v hv hw=>?_⟩
 obtain ⟨V,hV⟩ : ∃ V : Int,V = (v : Int) + 1:=⟨_,rfl⟩
 obtain ⟨S,hS'⟩ : ∃ S : Int,S = V * KK:=⟨_,rfl⟩
 have eS : IntKind.u64.wrap ((v : Int) * KK + 4294967296) = S:=by rw [IntKind.wrap_u64,hS',hV]; simp only [KK]; omega
 have a1 : S / 4294967296 = V:=by rw [hS']; simp only [KK]; omega
 have b1 : bits .and .u64 S 2147483648 = 0:=by rw [hS',hV]; have:=st_flag (v + 1) 0 (by omega) (by omega); simpa [KK] using this
 have b2 : bits .and .u64 S 2147483647 = 0:=by rw [hS',hV]; have:=st_waiters (v + 1) 0 (by omega) (by omega); simpa [KK] using this
 have c1 : IntKind.i32.wrap V = V:=by rw [IntKind.wrap_i32]; omega
 have hV2 : V < 2147483648:=by omega
 have q3 : decide (V < 0) = false:=decide_eq_false (by omega)
 have q4 : decide (0 < V) = true:=decide_eq_true (by omega)
 have q5 : (V == 0) = false:=by simp; omega
 have q6 : decide (V = 0) = false:=decide_eq_false (by omega)
 rw [← hV,← hS']
 refine ⟨_,(stepG_add_atomic rfl rfl (by k_ne) rfl H.f_addU64 (x_addU64_n L) (x_addU64_b L) (x_addU64_x L) .u64 (x_addU64_f L) rfl rfl hw.cellSt (hw.thaw 0)).trans (by rw [eS]; rfl),fun h0=>⟨200,?_⟩,fun h0=>⟨200,?_⟩⟩
 ·
  replace hF : F (w₂.setCell (stA Wg) (.int .u64 S)) ∧ WgLive L.tWg Wg (w₂.setCell (stA Wg) (.int .u64 S)):=⟨hS _ _ hF.1,⟨_,_,hw.setSt _⟩⟩
  obtain rfl : V = 1:=by omega
  obtain rfl : S = 4294967296:=by rw [hS']; rfl
  clear hw hS' hV eS
  walk_nrm
  u_op hR hF
  u_c stepG_region_end hR hF
  u_c stepG_ret' hR hF
  u_leave1 H.f_uAdd hR hF
  u_op hR hF
  u_c stepG_region_end hR hF
  u_c stepG_seq hR hF
  u_c stepG_seq hR hF
  u_reg hR hF
  u_op hR hF
  u_op hR hF
  u_op hR hF
  u_op hR hF
  u_skip hR hF
  u_skip hR hF
  u_op hR hF
  u_c stepG_region_end hR hF
  u_cnd false hR hF
  u_c stepG_skip hR hF
  u_c stepG_seq hR hF
  u_reg hR hF
  u_op hR hF
  u_op hR hF
  u_op hR hF
  u_op hR hF
  u_c stepG_region_end hR hF
  u_c stepG_seq hR hF
  u_reg hR hF
  u_op hR hF
  u_op hR hF
  u_op hR hF
  u_op hR hF
  u_c stepG_region_end hR hF
  u_c stepG_seq hR hF
  u_c stepG_seq hR hF
  u_reg hR hF
  u_op hR hF
  u_op hR hF
  u_op hR hF
  u_op hR hF
  u_op hR hF
  u_op hR hF
  u_op hR hF
  u_op hR hF
  u_op hR hF
  u_op hR hF
  u_c stepG_region_end hR hF
  u_cnd true hR hF
  u_reg hR hF
  u_op hR hF
  u_op hR hF
  u_op hR hF
  u_conv H.underlying_tPU32 H.room_tU32 (WgLive.cell1 hF.2).choose_spec hR hF
  refine Goes.stop (fun w₃ h₃=>?_)
  replace hF:=hR hF h₃
  clear h₃
  refine ⟨rfl,_,stepG_markAt .read (by simp) rfl rfl (by k_ne) rfl H.f_raceRead (x_raceRead_n L) (x_raceRead_b L) (x_raceRead_x L) (x_raceRead_f L) (ad:=⟨Wg,1,none⟩) (by simp [Act.eval]),200,?_⟩
  walk_nrm
  u_c stepG_region_end hR hF
  u_c stepG_seq hR hF
  u_c stepG_seq hR hF
  u_reg hR hF
  u_op hR hF
  u_op hR hF
  u_c stepG_region_end hR hF
  u_cnd false hR hF
  u_c stepG_skip hR hF
  u_c stepG_seq hR hF
  u_c stepG_seq hR hF
  u_reg hR hF
  u_op hR hF
  u_op hR hF
  u_op hR hF
  u_skip hR hF
  u_skip hR hF
  u_op hR hF
  u_op hR hF
  u_skip hR hF
  u_skip hR hF
  u_skip hR hF
  u_skip hR hF
  u_op hR hF
  u_c stepG_region_end hR hF
  u_cnd false hR hF
  u_c stepG_skip hR hF
  u_c stepG_seq hR hF
  u_c stepG_seq hR hF
  u_reg hR hF
  u_op hR hF
  u_op hR hF
  u_op hR hF
  u_skip hR hF
  u_skip hR hF
  u_op hR hF
  u_c stepG_region_end hR hF
  u_cnd true hR hF
  u_c stepG_ret' hR hF
  refine Goes.stop (fun w₄ h₄=>?_)
  replace hF:=hR hF h₄
  clear h₄
  refine ⟨rfl,_,stepG_unwind_entry (v:=.tuple #[]) (evs:=#[mk .enable]) rfl H.f_enable (x_enable_n L) (x_enable_b L) (x_enable_x L) (x_enable_f L) (by simp [Extern.Race.none_]) (by simp [mk]) (by simp [mk]),mT + 1,?_⟩
  u_leave0 H.f_add hR hF
  exact hT _ hF
 ·
  replace hF : F (w₂.setCell (stA Wg) (.int .u64 S)) ∧ WgLive L.tWg Wg (w₂.setCell (stA Wg) (.int .u64 S)):=⟨hS _ _ hF.1,⟨_,_,hw.setSt _⟩⟩
  have hV1 : 1 < V:=by omega
  clear hw hS' hV eS
  have q1 : (V == 1) = false:=by simp; omega
  have q2 : decide (V = 1) = false:=decide_eq_false (by omega)
  walk_nrm
  u_op hR hF
  u_c stepG_region_end hR hF
  u_c stepG_ret' hR hF
  u_leave1 H.f_uAdd hR hF
  u_op hR hF
  u_c stepG_region_end hR hF
  u_c stepG_seq hR hF
  u_c stepG_seq hR hF
  u_reg hR hF
  u_op hR hF
  u_op hR hF
  u_op hR hF
  u_op hR hF
  u_skip hR hF
  u_skip hR hF
  u_op hR hF
  u_c stepG_region_end hR hF
  u_cnd false hR hF
  u_c stepG_skip hR hF
  u_c stepG_seq hR hF
  u_reg hR hF
  u_op hR hF
  u_op hR hF
  u_op hR hF
  u_op hR hF
  u_c stepG_region_end hR hF
  u_c stepG_seq hR hF
  u_reg hR hF
  u_op hR hF
  u_op hR hF
  u_op hR hF
  u_op hR hF
  u_c stepG_region_end hR hF
  u_c stepG_seq hR hF
  u_c stepG_seq hR hF
  u_reg hR hF
  u_op hR hF
  u_op hR hF
  u_op hR hF
  u_op hR hF
  u_op hR hF
  u_op hR hF
  u_op hR hF
  u_op hR hF
  u_op hR hF
  u_op hR hF
  u_c stepG_region_end hR hF
  u_cnd false hR hF
  u_c stepG_skip hR hF
  u_c stepG_seq hR hF
  u_c stepG_seq hR hF
  u_reg hR hF
  u_op hR hF
  u_op hR hF
  u_c stepG_region_end hR hF
  u_cnd false hR hF
  u_c stepG_skip hR hF
  u_c stepG_seq hR hF
  u_c stepG_seq hR hF
  u_reg hR hF
  u_op hR hF
  u_op hR hF
  u_op hR hF
  u_skip hR hF
  u_skip hR hF
  u_op hR hF
  u_op hR hF
  u_skip hR hF
  u_skip hR hF
  u_skip hR hF
  u_skip hR hF
  u_op hR hF
  u_c stepG_region_end hR hF
  u_cnd false hR hF
  u_c stepG_skip hR hF
  u_c stepG_seq hR hF
  u_c stepG_seq hR hF
  u_reg hR hF
  u_op hR hF
  u_op hR hF
  u_op hR hF
  u_skip hR hF
  u_skip hR hF
  u_op hR hF
  u_c stepG_region_end hR hF
  u_cnd true hR hF
  u_c stepG_ret' hR hF
  refine Goes.stop (fun w₄ h₄=>?_)
  replace hF:=hR hF h₄
  clear h₄
  refine ⟨rfl,_,stepG_unwind_entry (v:=.tuple #[]) (evs:=#[mk .enable]) rfl H.f_enable (x_enable_n L) (x_enable_b L) (x_enable_x L) (x_enable_f L) (by simp [Extern.Race.none_]) (by simp [mk]) (by simp [mk]),mT + 1,?_⟩
  u_leave0 H.f_add hR hF
  exact hT _ hF
end Go.Proofs.YtkeapmmochpcfaaGreat.Nf
namespace Go.Proofs.YtkeapmmochpcfaaGreat.Nf
open Go Go.Conc Go.ConcN Go.RowKit Go.Conc.Lib Go.ConcR.Gen
open Go.ConcR (KK wgBlock WgAt stA smA rd wr mk DC0)
open Go.ConcN.Gen
set_option linter.unusedSectionVars false
theorem wait_goes {L : WgLink} {P : Program} {R : World → World → Prop} {Wg : Nat} {F : World → Prop} {Nx : Goroutine → World → Prop} {b₀ : Frame} {a₀ : Act} {ops₀ : Array Oper} {i₀ : Nat} {rest₀ : List Nat} {k₀ : List Item} {cs : List Frame} {mT : Nat}
  (H : WgLib P L) (hR : ∀ {w w₁},F w ∧ WgLive L.tWg Wg w → R w w₁ → F w₁ ∧ WgLive L.tWg Wg w₁) (hS : ∀ w x,F w → F (w.setCell (stA Wg) x)) (hS2 : ∀ w x,F w → F (w.setCell (smA Wg) x))
  (hT : ∀ w,F w ∧ WgLive L.tWg Wg w → Goes P true R DC0 Nx mT (G (b₀.at (a₀.put ((ops₀[i₀]?).bind (·.dst)) (.tuple #[])) (.inRegion ops₀ rest₀ :: k₀)) cs) w)
  (g : Goroutine) (w : World) (h : AnchWN L F Wg (b₀.at a₀ (.inRegion ops₀ (i₀ :: rest₀) :: k₀)) cs g w) :
  ∃ n,Goes P true R DC0 (Looks P R L.tWg Wg (AnchWN L F Wg (b₀.at a₀ (.inRegion ops₀ (i₀ :: rest₀) :: k₀)) cs) Nx) n g w:=by
 lib_facts
 obtain ⟨T,rfl,hT84,t0,hF⟩:=h
 obtain ⟨v0,v1,v2,v3,v4,v5,v6,v7,v8,v9,v10,v11,v12,v13,v14,v15,v16,v17,v18,v19,v20,v21,v22,v23,v24,v25,v26,v27,v28,v29,v30,v31,v32,v33,v34,v35,v36,v37,v38,v39,v40,v41,v42,v43,v44,v45,v46,v47,v48,v49,v50,v51,v52,v53,v54,v55,v56,v57,v58,v59,v60,v61,v62,v63,v64,v65,v66,v67,v68,v69,v70,v71,v72,v73,v74,v75,v76,v77,v78,v79,v80,v81,v82,v83,rfl⟩:=array84 T hT84
 simp only [List.getElem?_toArray,List.getElem?_cons_zero,Option.some.injEq] at t0
 subst t0
 refine ⟨200,?_⟩
 simp only [L7,body_wait,waitFn,Option.getD_some]
 u_c stepG_block hR hF
 u_c stepG_seq hR hF
 u_reg hR hF
 u_op hR hF
 u_op hR hF
 u_op hR hF
 u_call H.f_uLoad (nm_uLoad L) uLoadFn hR hF
 u_c stepG_seq hR hF
 u_reg hR hF
 u_op hR hF
 u_c stepG_region_end hR hF
 u_c stepG_seq hR hF
 u_reg hR hF
 u_op hR hF
 u_op hR hF
 u_op hR hF
 refine Goes.stop (fun w₁ h₁=>?_)
 replace hF:=hR hF h₁
 clear h₁
 refine ⟨rfl,fun v hv hw=>?_⟩
 obtain ⟨S,hS'⟩ : ∃ S : Int,(v : Int) * KK = S:=⟨_,rfl⟩
 rw [hS'] at hw
 refine ⟨_,stepG_load_atomic (v:=S) rfl rfl (by k_ne) rfl H.f_loadU64 (x_loadU64_n L) (x_loadU64_b L) (x_loadU64_x L) .u64 (x_loadU64_f L) rfl hw.cellSt,fun h0=>⟨200,?_⟩,fun h0=>⟨200,?_⟩⟩
 ·
  obtain rfl : S = 0:=by rw [← hS',h0]; rfl
  clear hw hS'
  walk_nrm
  u_op hR hF
  u_c stepG_region_end hR hF
  u_c stepG_ret' hR hF
  u_leave1 H.f_uLoad hR hF
  u_op hR hF
  u_c stepG_region_end hR hF
  u_c stepG_seq hR hF
  u_reg hR hF
  u_op hR hF
  u_op hR hF
  u_op hR hF
  u_op hR hF
  u_c stepG_region_end hR hF
  u_c stepG_seq hR hF
  u_reg hR hF
  u_op hR hF
  u_op hR hF
  u_op hR hF
  u_op hR hF
  u_c stepG_region_end hR hF
  u_c stepG_seq hR hF
  u_c stepG_seq hR hF
  u_reg hR hF
  u_op hR hF
  u_op hR hF
  u_c stepG_region_end hR hF
  u_cnd true hR hF
  u_c stepG_seq hR hF
  u_cnd true hR hF
  u_c stepG_seq hR hF
  u_reg hR hF
  refine Goes.stop (fun w₂ h₂=>?_)
  replace hF:=hR hF h₂
  clear h₂
  refine ⟨rfl,_,stepG_mark0 .enable (by simp) rfl rfl (by k_ne) rfl H.f_enable (x_enable_n L) (x_enable_b L) (x_enable_x L) (x_enable_f L),200,?_⟩
  walk_nrm
  u_c stepG_region_end hR hF
  u_reg hR hF
  u_op hR hF
  u_conv H.underlying_tWgP H.room_tWg (WgLive.cell0 hF.2).choose_spec hR hF
  refine Goes.stop (fun w₃ h₃=>?_)
  replace hF:=hR hF h₃
  clear h₃
  refine ⟨rfl,_,stepG_markAt .acquire (by simp) rfl rfl (by k_ne) rfl H.f_acquire (x_acquire_n L) (x_acquire_b L) (x_acquire_x L) (x_acquire_f L) (by simp [Act.eval,stA]),mT + 20,?_⟩
  walk_nrm
  u_c stepG_region_end hR hF
  u_c stepG_seq hR hF
  u_c stepG_seq hR hF
  u_reg hR hF
  u_op hR hF
  u_op hR hF
  u_op hR hF
  u_op hR hF
  u_op hR hF
  u_op hR hF
  u_op hR hF
  u_op hR hF
  u_skip hR hF
  u_skip hR hF
  u_op hR hF
  u_c stepG_region_end hR hF
  u_cnd false hR hF
  u_c stepG_skip hR hF
  u_c stepG_ret' hR hF
  u_leave0 H.f_wait hR hF
  exact goes_le (hT _ hF) (by omega)
 ·
  have a1 : S / 4294967296 = (v : Int):=by rw [← hS']; simp only [KK]; omega
  have b1 : bits .and .u64 S 2147483648 = 0:=by rw [← hS']; have:=st_flag v 0 (by omega) (by omega); simpa [KK] using this
  have b2 : bits .and .u64 S 2147483647 = 0:=by rw [← hS']; have:=st_waiters v 0 (by omega) (by omega); simpa [KK] using this
  have c1 : IntKind.i32.wrap (v : Int) = (v : Int):=by rw [IntKind.wrap_i32]; omega
  have w1 : IntKind.u64.wrap (S + 1) = S + 1:=by rw [IntKind.wrap_u64,← hS']; simp only [KK]; omega
  have q3 : decide ((v : Int) < 0) = false:=decide_eq_false (by omega)
  have q4 : decide (0 < (v : Int)) = true:=decide_eq_true (by omega)
  have q5 : ((v : Int) == 0) = false:=by simp; omega
  have q6 : decide ((v : Int) = 0) = false:=decide_eq_false (by omega)
  clear hw
  walk_nrm
  u_op hR hF
  u_c stepG_region_end hR hF
  u_c stepG_ret' hR hF
  u_leave1 H.f_uLoad hR hF
  u_op hR hF
  u_c stepG_region_end hR hF
  u_c stepG_seq hR hF
  u_reg hR hF
  u_op hR hF
  u_op hR hF
  u_op hR hF
  u_op hR hF
  u_c stepG_region_end hR hF
  u_c stepG_seq hR hF
  u_reg hR hF
  u_op hR hF
  u_op hR hF
  u_op hR hF
  u_op hR hF
  u_c stepG_region_end hR hF
  u_c stepG_seq hR hF
  u_c stepG_seq hR hF
  u_reg hR hF
  u_op hR hF
  u_op hR hF
  u_c stepG_region_end hR hF
  u_cnd false hR hF
  u_c stepG_skip hR hF
  u_c stepG_seq hR hF
  u_reg hR hF
  u_op hR hF
  u_op hR hF
  u_op hR hF
  u_op hR hF
  u_op hR hF
  u_op hR hF
  u_call H.f_uCas (nm_uCas L) uCasFn hR hF
  u_c stepG_seq hR hF
  u_reg hR hF
  u_op hR hF
  u_c stepG_region_end hR hF
  u_c stepG_seq hR hF
  u_reg hR hF
  u_op hR hF
  u_op hR hF
  u_op hR hF
  u_op hR hF
  u_op hR hF
  refine Goes.stop (fun w₂ h₂=>?_)
  replace hF:=hR hF h₂
  clear h₂
  refine ⟨rfl,fun v' hv' hw=>⟨fun e=>?_,fun e=>?_⟩⟩
  ·
   subst e
   rw [hS'] at hw ⊢
   refine ⟨_,(stepG_cas_hit (v:=S) (n:=S + 1) rfl rfl (by k_ne) rfl H.f_casU64 (x_casU64_n L) (x_casU64_b L) (x_casU64_x L) .u64 (x_casU64_f L) rfl rfl rfl hw.cellSt (hw.thaw 0)).trans (by rfl),200,?_⟩
   replace hF : F (w₂.setCell (stA Wg) (.int .u64 (S + 1))) ∧ WgLive L.tWg Wg (w₂.setCell (stA Wg) (.int .u64 (S + 1))):=⟨hS _ _ hF.1,⟨_,_,hw.setSt _⟩⟩
   clear hw
   walk_nrm
   u_op hR hF
   u_c stepG_region_end hR hF
   u_c stepG_ret' hR hF
   u_leave1 H.f_uCas hR hF
   u_c stepG_region_end hR hF
   u_cnd true hR hF
   u_c stepG_seq hR hF
   u_c stepG_seq hR hF
   u_reg hR hF
   u_op hR hF
   u_op hR hF
   u_op hR hF
   u_op hR hF
   u_c stepG_region_end hR hF
   u_cnd true hR hF
   u_reg hR hF
   u_op hR hF
   u_op hR hF
   u_op hR hF
   u_conv H.underlying_tPU32 H.room_tU32 (WgLive.cell1 hF.2).choose_spec hR hF
   refine Goes.stop (fun w₃ h₃=>?_)
   replace hF:=hR hF h₃
   clear h₃
   refine ⟨rfl,_,stepG_markAt .write (by simp) rfl rfl (by k_ne) rfl H.f_raceWrite (x_raceWrite_n L) (x_raceWrite_b L) (x_raceWrite_x L) (x_raceWrite_f L) (ad:=⟨Wg,1,none⟩) (by simp [Act.eval]),200,?_⟩
   walk_nrm
   u_c stepG_region_end hR hF
   u_c stepG_seq hR hF
   u_reg hR hF
   u_op hR hF
   u_c stepG_region_end hR hF
   u_c stepG_seq hR hF
   u_c stepG_seq hR hF
   u_reg hR hF
   u_op hR hF
   u_op hR hF
   u_op hR hF
   u_op hR hF
   u_skip hR hF
   u_op hR hF
   u_c stepG_region_end hR hF
   u_cnd false hR hF
   u_c stepG_skip hR hF
   u_c stepG_seq hR hF
   u_reg hR hF
   u_op hR hF
   u_op hR hF
   u_op hR hF
   u_op hR hF
   refine Goes.stop (fun w₄ h₄=>?_)
   replace hF:=hR hF h₄
   clear h₄
   refine ⟨rfl,rfl,fun ⟨st,hw⟩=>stepG_semacquire_wait rfl rfl rfl H.f_semacquire (x_semacquire_n L) (x_semacquire_b L) (x_semacquire_x L) (x_semacquire_f L) (by simp [Act.eval,smA]) hw.cellSm,fun hf=>?_⟩
   refine ⟨_,(stepG_semacquire (n:=1) rfl rfl (by k_ne) rfl H.f_semacquire (x_semacquire_n L) (x_semacquire_b L) (x_semacquire_x L) (x_semacquire_f L) (by simp [Act.eval,smA]) hf.cellSm (by k_ne) (hf.thaw 1)).trans (by rfl),200,?_⟩
   replace hF : F (w₄.setCell (smA Wg) (.int .u32 0)) ∧ WgLive L.tWg Wg (w₄.setCell (smA Wg) (.int .u32 0)):=⟨hS2 _ _ hF.1,⟨_,_,hf.setSm 0⟩⟩
   clear hf
   walk_nrm
   u_c stepG_region_end hR hF
   u_c stepG_seq hR hF
   u_reg hR hF
   u_op hR hF
   u_op hR hF
   u_op hR hF
   u_call H.f_uLoad (nm_uLoad L) uLoadFn hR hF
   u_c stepG_seq hR hF
   u_reg hR hF
   u_op hR hF
   u_c stepG_region_end hR hF
   u_c stepG_seq hR hF
   u_reg hR hF
   u_op hR hF
   u_op hR hF
   u_op hR hF
   refine Goes.stop (fun w₅ h₅=>?_)
   replace hF:=hR hF h₅
   clear h₅
   refine ⟨rfl,fun hw=>⟨_,stepG_load_atomic (v:=0) rfl rfl (by k_ne) rfl H.f_loadU64 (x_loadU64_n L) (x_loadU64_b L) (x_loadU64_x L) .u64 (x_loadU64_f L) rfl hw.cellSt,200,?_⟩⟩
   clear hw
   walk_nrm
   u_op hR hF
   u_c stepG_region_end hR hF
   u_c stepG_ret' hR hF
   u_leave1 H.f_uLoad hR hF
   u_op hR hF
   u_op hR hF
   u_c stepG_region_end hR hF
   u_c stepG_seq hR hF
   u_cnd true hR hF
   u_c stepG_seq hR hF
   u_reg hR hF
   refine Goes.stop (fun w₆ h₆=>?_)
   replace hF:=hR hF h₆
   clear h₆
   refine ⟨rfl,_,stepG_mark0 .enable (by simp) rfl rfl (by k_ne) rfl H.f_enable (x_enable_n L) (x_enable_b L) (x_enable_x L) (x_enable_f L),200,?_⟩
   walk_nrm
   u_c stepG_region_end hR hF
   u_reg hR hF
   u_op hR hF
   u_conv H.underlying_tWgP H.room_tWg (WgLive.cell0 hF.2).choose_spec hR hF
   refine Goes.stop (fun w₇ h₇=>?_)
   replace hF:=hR hF h₇
   clear h₇
   refine ⟨rfl,_,stepG_markAt .acquire (by simp) rfl rfl (by k_ne) rfl H.f_acquire (x_acquire_n L) (x_acquire_b L) (x_acquire_x L) (x_acquire_f L) (by simp [Act.eval,stA]),mT + 20,?_⟩
   walk_nrm
   u_c stepG_region_end hR hF
   u_c stepG_seq hR hF
   u_c stepG_seq hR hF
   u_reg hR hF
   u_op hR hF
   u_c stepG_region_end hR hF
   u_cnd false hR hF
   u_c stepG_skip hR hF
   u_c stepG_ret' hR hF
   u_leave0 H.f_wait hR hF
   exact goes_le (hT _ hF) (by omega)
  ·
   refine ⟨_,stepG_cas_miss (v:=(v' : Int) * KK) (old:=S) (n:=S + 1) rfl rfl (by k_ne) rfl H.f_casU64 (x_casU64_n L) (x_casU64_b L) (x_casU64_x L) .u64 (x_casU64_f L) rfl rfl rfl hw.cellSt (hw.thaw 0) (by rw [← hS']; simp only [KK]; omega),200,?_⟩
   clear hw
   walk_nrm
   u_op hR hF
   u_c stepG_region_end hR hF
   u_c stepG_ret' hR hF
   u_leave1 H.f_uCas hR hF
   u_c stepG_region_end hR hF
   u_cnd false hR hF
   u_c stepG_skip hR hF
   u_c stepG_inBlock hR hF
   u_c stepG_inLoop hR hF
   refine Goes.stop (fun w₃ h₃=>?_)
   replace hF:=hR hF h₃
   exact ⟨_,rfl,by simp,by simp,hF⟩
end Go.Proofs.YtkeapmmochpcfaaGreat.Nf
namespace Go.Proofs.YtkeapmmochpcfaaGreat.Nf
open Go Go.Conc Go.ConcN Go.RowKit Go.Conc.Lib Go.ConcR.Gen
open Go.ConcR (KK wgBlock WgAt stA smA rd wr mk DC0)
open Go.ConcN.Gen
set_option linter.unusedSectionVars false
theorem wait_start {L : WgLink} {P : Program} {R : World → World → Prop} {Wg : Nat} {F : World → Prop} {c : Frame} {cs : List Frame}
  (H : WgLib P L) (hR : ∀ {w w₁},F w ∧ WgLive L.tWg Wg w → R w w₁ → F w₁ ∧ WgLive L.tWg Wg w₁) (w : World) (hF : F w ∧ WgLive L.tWg Wg w) :
  Goes P true R DC0 (Says P R .disable (AnchWN L F Wg c cs)) 200 (G ((base L.wait).at ⟨(.pointer (some ⟨Wg,0,none⟩) :: List.replicate 83 undef).toArray,[]⟩ [.code (body_wait L)]) (c :: cs)) w:=by
 lib_facts
 simp only [body_wait,waitFn,Option.getD_some,List.replicate]
 u_c stepG_seq hR hF
 u_cnd true hR hF
 u_reg hR hF
 refine Goes.stop (fun w₁ h₁=>?_)
 replace hF:=hR hF h₁
 clear h₁
 refine ⟨rfl,_,stepG_mark0 .disable (by simp) rfl rfl (by k_ne) rfl H.f_disable (x_disable_n L) (x_disable_b L) (x_disable_x L) (x_disable_f L),200,?_⟩
 walk_nrm
 u_c stepG_region_end hR hF
 u_c stepG_block hR hF
 u_c stepG_loop hR hF
 refine Goes.stop (fun w₂ h₂=>?_)
 replace hF:=hR hF h₂
 exact ⟨_,rfl,by simp,by simp,hF⟩
end Go.Proofs.YtkeapmmochpcfaaGreat.Nf
